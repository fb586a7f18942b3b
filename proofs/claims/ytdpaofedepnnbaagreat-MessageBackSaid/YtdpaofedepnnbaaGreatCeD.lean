/-
  Encode of package cell, by its contracts. No claim of its own.
-/
import Derived.Test.YtdpaofedepnnbaaGreatCeM
namespace Go.Proofs.YtdpaofedepnnbaaGreat
open Go.RowKit Go.Deep
set_option linter.unusedVariables false
set_option linter.unusedSimpArgs false

set_option maxHeartbeats 1000000 in
theorem enc_no (x : Ce) (a : Option Addr) (c : Nat) (a2 : Option Addr) (c2 B : Nat) (w : World) (hro : Ro w B a2 (bcs x.b)) (hB : B ≤ w.heap.size) (hl : x.b.length ≤ 9223372036854775807) (hl2 : x.d.length ≤ 9223372036854775807) (hr : right x = false) :
    Calls Tryz.prog 22 #[cev x.k a x.d.length c a2 x.b.length c2] w fun e w' => e = .returned (.tuple #[.slice none 0 0, .int .i64 71]) ∧ Below w.heap.size w w' := by
  have HR := Lib.hid (right_any x a c a2 c2 B (w.alloc (.cells #[.int .i64 x.k, .slice a x.d.length c, .slice a2 x.b.length c2] 32)) (hro.below ((Below.refl B w).alloc hB _) (Nat.le_refl _)) (by simp; omega) hl hl2)
  rw [hr] at HR
  clear hr hro
  go_enter Tryz.func22, Tryz.ntmps22
  go_wp2_with fail
  refine HR.out.mono ?_
  rintro e w1 ⟨rfl, hb⟩
  have HB := Lib.hid hb
  clear hb
  go_wp2_with fail
  go_ret2
  exact ⟨rfl, ((Below.refl _ _).alloc (Nat.le_refl _) _).trans (HB.out.mono (by simp))⟩

set_option maxHeartbeats 1000000 in
theorem enc_junk (a : Option Addr) (c : Nat) (a2 : Option Addr) (c2 : Nat) (w : World) :
    Calls Tryz.prog 22 #[cev 2 a 0 c a2 0 c2] w fun e w' => ∃ g, e = .returned (.tuple #[.slice (some ⟨g, 0, none⟩) 1 1, .int .i64 0]) ∧ Own w' g 5 (u8s [2]) ∧ Below w.heap.size w w' := by
  have HR := Lib.hid (right_any ⟨2, [], []⟩ a c a2 c2 0 (w.alloc (.cells #[.int .i64 2, .slice a 0 c, .slice a2 0 c2] 32)) (Ro.nil _ _ _) (by omega) (by simp) (by simp))
  rw [show right ⟨2, [], []⟩ = true from rfl] at HR
  simp only [List.length_nil] at HR
  go_enter Tryz.func22, Tryz.ntmps22
  go_wp2_with fail
  refine HR.out.mono ?_
  rintro e w1 ⟨rfl, hb⟩
  have HB := Lib.hid hb
  have o1 := (Own.new w 32 [.int .i64 2, .slice a 0 c, .slice a2 0 c2]).below hb (by simp)
  have c0 := o1.cell 0
  simp at c0
  clear hb o1
  go_wp2_with fail
  go_ret2
  exact ⟨w1.heap.size, rfl, Own.new w1 _ _, (((Below.refl _ _).alloc (Nat.le_refl _) _).trans (HB.out.mono (by simp))).alloc (by have := HB.out.size; simp at this; omega) _⟩

theorem Lst.cap_le {w : World} {base : Nat} {e : TypeId} {a : Option Addr} {n c : Nat} {xs : List Value} (h : Lst w base e (.slice a n c) xs) : c ≤ maxLen := by
  unfold Lst at h
  rcases h.2 with ⟨h1, _⟩ | ⟨g, cap, cur, h1, _, _, _, h2, _⟩
  · injection h1 with _ _ h3; subst h3; decide
  · injection h1 with _ _ h3; subst h3; exact h2
theorem vals_take (x : Ce) (k : Nat) (h : k < x.b.length) : (headN x.b.length x.d.length :: (x.b.take (k + 1)).map fieldN) = (headN x.b.length x.d.length :: (x.b.take k).map fieldN) ++ [fieldN (bk x.b k)] := by
  rw [bk_take h]; simp
set_option maxHeartbeats 4000000 in
theorem enc_data (x : Ce) (a : Option Addr) (c : Nat) (a2 : Option Addr) (c2 B : Nat) (w : World) (hro0 : Ro w B a (u8s x.d)) (hro : Ro w B a2 (bcs x.b)) (hB : B ≤ w.heap.size) (hfit : ∀ b ∈ x.b, FitB b) (hk : x.k = 1) (hr : right x = true) :
    Calls Tryz.prog 22 #[cev 1 a x.d.length c a2 x.b.length c2] w fun e w' => ∃ bs a' c', e = .returned (.tuple #[.slice a' bs.length c', .int .i64 0]) ∧ IsEnc x bs ∧ Ro w' w'.heap.size a' (u8s bs) ∧ (bs.length ≤ c' ∧ c' ≤ maxLen) ∧ Below w.heap.size w w' ∧ Lst w' w.heap.size 5 (.slice a' bs.length c') (u8s bs) := by
  obtain ⟨hd, hn, hbk⟩ := right_data hr hk
  have HR := Lib.hid (right_any x a c a2 c2 B (w.alloc (.cells #[.int .i64 x.k, .slice a x.d.length c, .slice a2 x.b.length c2] 32)) (hro.below ((Below.refl B w).alloc hB _) (Nat.le_refl _)) (by simp; omega) (by omega) (by omega))
  rw [hr, hk] at HR
  have HP := Lib.hid (packOk_vals hr hk)
  have HK := Lib.hid hk
  have HBK := Lib.hid hbk
  have HRO0 := Lib.hid hro0
  have HRO := Lib.hid hro
  have HF := Lib.hid hfit
  clear hr hro hro0 hk hbk hfit
  obtain ⟨n, HN⟩ : ∃ n, Hid (x.b.length = n) := ⟨_, Lib.hid rfl⟩
  obtain ⟨m, HM⟩ : ∃ m, Hid (x.d.length = m) := ⟨_, Lib.hid rfl⟩
  rw [HN.out] at hn HR ⊢
  rw [HM.out] at hd HR ⊢
  have HH := Lib.hid (fun W => headOf_any 1 a m c a2 n c2 W (by omega) (by omega))
  go_enter Tryz.func22, Tryz.ntmps22
  go_wp2_with fail
  refine HR.out.mono ?_
  rintro e w1 ⟨rfl, hb⟩
  have HB1 := Lib.hid (((Below.refl w.heap.size w).alloc (Nat.le_refl _) (.cells #[.int .i64 1, .slice a m c, .slice a2 n c2] 32)).trans (hb.mono (by simp)))
  have o1 := (Own.new w 32 [.int .i64 1, .slice a m c, .slice a2 n c2]).below hb (by simp)
  have c0 := o1.cell 0
  have c1 := o1.cell 1
  have c2' := o1.cell 2
  simp at c0 c1 c2'
  have HO1 := Lib.hid o1
  clear hb o1
  go_wp2_with fail
  refine (HH.out _).mono ?_
  rintro e w2 ⟨rfl, hb⟩
  have HB2 := Lib.hid (HB1.out.trans (hb.mono HB1.out.size))
  have HO2 := Lib.hid (HO1.out.below hb HO1.out.lt)
  have c2'' := HO2.out.cell 2
  simp at c2''
  have HZ2 := Lib.hid (Nat.lt_of_lt_of_le HO1.out.lt hb.size)
  have hz2 : w.heap.size < w2.heap.size := Nat.lt_of_lt_of_le HO1.out.lt hb.size
  clear hb c0 c1 c2'
  go_wp2_with fail
  obtain ⟨hd0, HD0⟩ : ∃ h, Hid (headN n m = h) := ⟨_, Lib.hid rfl⟩
  rw [HD0.out]
  have HLst0 : Hid (Lst (w2.alloc (.cells #[.int .u64 (hd0 : Int)] 26)) (w.heap.size + 1) 26 (.slice (some ⟨w2.heap.size, 0, none⟩) 1 1) (u64s (hd0 :: (x.b.take 0).map fieldN))) :=
    Lib.hid ((Own.new w2 26 (u64s [hd0])).lst (by omega) 1 rfl (by decide))
  have hnn : (0 : Int) ≤ (n : Int) := by omega
  go_loopw [4, 22] (fun s4 i wr => ∃ (k : Nat) (al : Option Addr) (nl cl : Nat), k ≤ n ∧ i = .int .i64 (k : Int) ∧ s4 = .slice al nl cl ∧ Hid (Lst wr (w.heap.size + 1) 26 (.slice al nl cl) (u64s (hd0 :: (x.b.take k).map fieldN))) ∧ Hid (Below (w.heap.size + 1) w2 wr)) (fun _ i _ => n - (intOf i).toNat)
  case atStart => exact ⟨0, _, _, _, Nat.zero_le _, rfl, rfl, HLst0, Lib.hid ((Below.refl _ _).alloc (by omega) _)⟩
  case round =>
    obtain ⟨k, al, nl, cl, hk, rfl, rfl, HL, HBr⟩ := hrel
    have hzr : w.heap.size < wr.heap.size := Nat.lt_of_lt_of_le hz2 HBr.out.size
    have HBw : Hid (Below w.heap.size w wr) := Lib.hid (HB2.out.trans (HBr.out.mono (by omega)))
    have HOr := Lib.hid (HO2.out.below HBr.out (Nat.lt_succ_self _))
    by_cases hlt : k < n
    · have hkL : k < x.b.length := by rw [HN.out]; exact hlt
      obtain ⟨b, off, rfl, hb, hc⟩ := (HRO.out.below HBw.out hB).bk (by omega)
      obtain ⟨c1, c2, c3⟩ := hc k hkL
      have HV := Lib.hid (vals_take x k hkL)
      have hat := backsOk_at HBK.out k hkL
      have hft := HF.out _ (bk_mem hkL)
      clear hc
      have HFt := Lib.hid hft
      have HAt := Lib.hid hat
      generalize bk x.b k = y at *
      have HC := Lib.hid (fun W => fieldOf_any y W (by have := HAt.out; omega) HAt.out.2.2.1 (by have := HFt.out; unfold FitB at this; omega) (by have := HFt.out; unfold FitB at this; omega))
      have hk0 : (0 : Int) ≤ (k : Int) := by omega
      have hk1 : (k : Int) < (n : Int) := by omega
      clear hat hft
      go_wp2_with fail
      refine (HC.out _).mono ?_
      rintro e w4 ⟨rfl, hb4⟩
      have HB4 : Hid (Below (w.heap.size + 1) w2 w4) := Lib.hid ((HBr.out.alloc (by omega) _).trans (hb4.mono (by simp; omega)))
      have HL4 := Lib.hid ((HL.out.alloc (.cells #[.int .i64 y.1, .int .u64 (y.2.1 : Int), .int .u64 (y.2.2 : Int)] 70)).below hb4 (Nat.le_refl _))
      have HZ4 : Hid (w.heap.size < w4.heap.size) := Lib.hid (Nat.lt_of_lt_of_le hz2 HB4.out.size)
      have HLen : Hid ((u64s (hd0 :: (x.b.take k).map fieldN)).length ≤ 5) := Lib.hid (by rw [u64s_length, List.length_cons, List.length_map, List.length_take]; omega)
      clear hb4
      go_wp2_with (at_builtin; refine wpList_app1 rfl (.tmp 26) (.tmp 29) 53 rfl (w.heap.size + 1) 26 (.int .u64 0) 8 Tryz.underlying53 Tryz.info_u64 rfl (.int .u64 (fieldN y : Int)) rfl (.slice al nl cl) (u64s (hd0 :: (x.b.take k).map fieldN)) rfl HL4.out rfl (by have := HLen.out; omega) (by have := HLen.out; omega) (w.heap.size + 1) w2 HB4.out (Nat.le_refl _) HZ4.out ?_)
      intro v' w5 hl5 hb5 hs5
      have HL5 := Lib.hid hl5.out
      have HB5 := Lib.hid hb5
      clear hl5 hb5 hs5
      obtain ⟨al', cl', rfl, _, _, _⟩ := HL5.out.form
      go_wp2_with fail
      go_roundw
      case rel =>
        have hV := HV.out
        rw [HN.out, HM.out, HD0.out] at hV
        refine ⟨k + 1, _, _, _, by omega, by go_num, rfl, ?_, HB5⟩
        rw [hV]
        have := HL5.out
        simpa [u64s] using Lib.hid this
      case measure => simp [intOf]; omega
    · obtain rfl : k = n := by omega
      have c2r := HOr.out.cell 2
      simp at c2r
      have hnl : nl = k + 1 := by
        obtain ⟨a', c', he, _, _, _⟩ := HL.out.form
        injection he with _ h2 _
        rw [h2, u64s_length, List.length_cons, List.length_map, List.length_take, HN.out]
        omega
      subst hnl
      have hvals : vals x = hd0 :: (x.b.take k).map fieldN := by
        unfold vals
        rw [List.take_of_length_le (by rw [HN.out]; exact Nat.le_refl _), HN.out, HM.out, HD0.out]
      have HL2 := HL.out
      rw [← hvals] at HL2
      have HL3 := Lib.hid HL2
      have HPK : Hid (∀ W aw cw, Ro W W.heap.size aw (i64s (wid k)) → Ro W W.heap.size al (u64s (vals x)) → Calls Tryz.prog 25 #[.slice aw (k + 1) cw, .slice al (k + 1) cl] W fun e w' => ∃ (g : Nat) (cs : List UInt8) (p : Nat), p = cs.length ∧ e = .returned (.tuple #[.slice (some ⟨g, 0, none⟩) p p, .bool true]) ∧ W.heap.size ≤ g ∧ IsPack (wid k) (vals x) cs ∧ Own w' g 5 (u8s cs) ∧ Below W.heap.size W w') := by
        apply Lib.hid
        intro W aw cw g1 g2
        have := pack_yes (wid k) (vals x) aw al cw cl W.heap.size W g1 g2 (Nat.le_refl _) (by simp; omega) (by have := HP.out; rwa [HN.out] at this)
        rw [wid_length, vals_length, HN.out] at this
        refine this.mono ?_
        rintro e w' ⟨g, cs, h1, h2, h3, h4, h5⟩
        exact ⟨g, cs, _, rfl, h1, h2, h3, h4, h5⟩
      clear HL2 hvals HL
      go_wp2_with fail
      refine (widths_any k _ (by omega)).mono ?_
      rintro e w6 ⟨aw, cw, rfl, hrw, hb6⟩
      have HRW := Lib.hid hrw
      have HL6 := Lib.hid (HL3.out.below hb6 (Nat.le_refl _))
      have HB6 := Lib.hid (HBw.out.trans (hb6.mono HBw.out.size))
      have HO6 := Lib.hid (HOr.out.below hb6 hzr)
      clear hrw hb6
      go_wp2_with fail
      refine (HPK.out _ _ _ HRW.out (by
        obtain ⟨a', c', he, hr, _, _⟩ := HL6.out.form
        injection he with h1 _ _
        subst h1
        exact hr)).mono ?_
      rintro e w7 ⟨g, cs, p, hp, rfl, hg, hpk, hown, hb7⟩
      have HPp := Lib.hid hp
      have HPK2 := Lib.hid hpk
      have HG := Lib.hid (Nat.le_trans HB6.out.size hg)
      have HOwn := Lib.hid hown
      have HB7 := Lib.hid (HB6.out.trans (hb7.mono HB6.out.size))
      have o7 := HO6.out.below hb7 HO6.out.lt
      have d1 := o7.cell 1
      simp at d1
      have hpl : p ≤ 100 := by
        have := hpk.1
        rw [wid_sum] at this
        omega
      clear hp hpk hown hb7 o7 hg
      have HLs : Hid (Lst w7 w.heap.size 5 (.slice (some ⟨g, 0, none⟩) p p) (u8s cs)) := Lib.hid (HOwn.out.lst HG.out p (by rw [u8s_length]; exact HPp.out.symm) (by unfold maxLen; omega))
      have HCl : Hid ((u8s cs).length = p) := Lib.hid (by rw [u8s_length]; exact HPp.out.symm)
      go_wp2_with (at_builtin; refine wpList_appB rfl (.tmp 43) (.tmp 45) 29 rfl w.heap.size 5 (.int .u8 0) 1 Tryz.underlying29 Tryz.info_u8 rfl (.slice (some ⟨g, 0, none⟩) p p) (u8s cs) rfl HLs.out a B m c (u8s x.d) rfl (by rw [u8s_length]; exact HM.out) (HRO0.out.below HB7.out hB) (u8s_oneCell _) (by have := HCl.out; omega) (by have := HCl.out; omega) w.heap.size w HB7.out (Nat.le_refl _) HB7.out.size ?_)
      intro v' w8 hl8 hb8 hs8
      have HL8 := Lib.hid hl8.out
      have HB8 := Lib.hid hb8
      clear hl8 hb8 hs8
      obtain ⟨a8, c8, rfl, hr8, hc8, _⟩ := HL8.out.form
      have HR8 := Lib.hid hr8
      have HC8 := Lib.hid (And.intro hc8 (HL8.out.cap_le))
      clear hr8 hc8
      go_wp2_with fail
      go_ret2
      have e8 : u8s cs ++ u8s x.d = u8s (cs ++ x.d) := by simp [u8s]
      refine ⟨cs ++ x.d, a8, c8, by rw [e8, u8s_length]; rfl, .inr ⟨HK.out, cs, by rw [HN.out]; exact HPK2.out, rfl⟩, by rw [← e8]; exact HR8.out, by have := HC8.out; rw [e8, u8s_length] at this; exact this, HB8.out, by have := HL8.out; rw [e8, u8s_length] at this; exact this⟩
end Go.Proofs.YtdpaofedepnnbaaGreat
