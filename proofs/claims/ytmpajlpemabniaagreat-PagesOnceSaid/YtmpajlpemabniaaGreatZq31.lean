/-
  Encode of package cell, by its contracts. No claim of its own.
-/
import Derived.Test.YtmpajlpemabniaaGreatZq14
import Derived.Laws.StructEq
import Derived.Test.YtmpajlpemabniaaGreatZq13
import Derived.Laws.IdiomStrings
import Derived.Laws.BytesString
import Derived.Test.YtmpajlpemabniaaGreatZq30
import Derived.Test.YtmpajlpemabniaaGreatZq24
import Derived.Test.YtmpajlpemabniaaGreatZq29
import Derived.Test.YtmpajlpemabniaaGreatZq2
namespace Go.Proofs.YtmpajlpemabniaaGreat
open Go.RowKit Go.Deep
set_option linter.unusedVariables false
set_option linter.unusedSimpArgs false
set_option maxHeartbeats 1000000 in
theorem enc_junk (a : Option Addr) (c : Nat) (a2 : Option Addr) (c2 : Nat) (w : World) :
    Calls Tryz.prog 180 #[cev 2 a 0 c a2 0 c2] w fun e w' => ∃ g, e = .returned (.tuple #[.slice (some ⟨g, 0, none⟩) 1 1, .int .i64 0]) ∧ Own w' g 5 (u8s [2]) ∧ Below w.heap.size w w' := by
  have HR := Lib.hid (right_any ⟨2, [], []⟩ a c a2 c2 0 (w.alloc (.cells #[.int .i64 2, .slice a 0 c, .slice a2 0 c2] 42)) (Ro.nil _ _ _) (by omega) (by simp) (by simp))
  rw [show right ⟨2, [], []⟩ = true from rfl] at HR
  simp only [List.length_nil] at HR
  go_enter Tryz.func180, Tryz.ntmps180
  go_wp2_with fail
  refine HR.out.mono ?_
  rintro e w1 ⟨rfl, hb⟩
  have HB := Lib.hid hb
  have o1 := (Own.new w 42 [.int .i64 2, .slice a 0 c, .slice a2 0 c2]).below hb (by simp)
  have c0 := o1.cell 0
  simp at c0
  clear hb o1
  go_wp2_with fail
  go_ret2
  exact ⟨w1.heap.size, rfl, Own.new w1 _ _, (((Below.refl _ _).alloc (Nat.le_refl _) _).trans (HB.out.mono (by simp))).alloc (by have := HB.out.size; simp at this; omega) _⟩
theorem Lst.cap_le {w : World} {base : Nat} {e : TypeId} {a : Option Addr} {n c : Nat} {xs : List Value} (h : Lst w base e (.slice a n c) xs) : c ≤ maxLen := by
  unfold Lst at h
  rcases h.2 with ⟨h1, _⟩ | ⟨g, cap, cur, h1, _, _, _, h2, _⟩
  · injection h1 with _ _ h3; subst h3; decide
  · injection h1 with _ _ h3; subst h3; exact h2
theorem vals_take (x : Ce) (k : Nat) (h : k < x.b.length) : (headN x.b.length x.d.length :: (x.b.take (k + 1)).map fieldN) = (headN x.b.length x.d.length :: (x.b.take k).map fieldN) ++ [fieldN (bk x.b k)] := by
  rw [bk_take h]; simp
set_option maxHeartbeats 4000000 in
theorem enc_data (x : Ce) (a : Option Addr) (c : Nat) (a2 : Option Addr) (c2 B : Nat) (w : World) (hro0 : Ro w B a (u8s x.d)) (hro : Ro w B a2 (bcs x.b)) (hB : B ≤ w.heap.size) (hfit : ∀ b ∈ x.b, FitB b) (hk : x.k = 1) (hr : right x = true) :
    Calls Tryz.prog 180 #[cev 1 a x.d.length c a2 x.b.length c2] w fun e w' => ∃ bs a' c', e = .returned (.tuple #[.slice a' bs.length c', .int .i64 0]) ∧ IsEnc x bs ∧ Ro w' w'.heap.size a' (u8s bs) ∧ (bs.length ≤ c' ∧ c' ≤ maxLen) ∧ Below w.heap.size w w' := by
  obtain ⟨hd, hn, hbk⟩ := right_data hr hk
  have HR := Lib.hid (right_any x a c a2 c2 B (w.alloc (.cells #[.int .i64 x.k, .slice a x.d.length c, .slice a2 x.b.length c2] 42)) (hro.below ((Below.refl B w).alloc hB _) (Nat.le_refl _)) (by simp; omega) (by omega) (by omega))
  rw [hr, hk] at HR
  have HP := Lib.hid (packOk_vals hr hk)
  have HK := Lib.hid hk
  have HBK := Lib.hid hbk
  have HRO0 := Lib.hid hro0
  have HRO := Lib.hid hro
  have HF := Lib.hid hfit
  clear hr hro hro0 hk hbk hfit
  obtain ⟨n, HN⟩ : ∃ n, Hid (x.b.length = n) := ⟨_, Lib.hid rfl⟩
  obtain ⟨m, HM⟩ : ∃ m, Hid (x.d.length = m) := ⟨_, Lib.hid rfl⟩
  rw [HN.out] at hn HR ⊢
  rw [HM.out] at hd HR ⊢
  have HH := Lib.hid (fun W => headOf_any 1 a m c a2 n c2 W (by omega) (by omega))
  go_enter Tryz.func180, Tryz.ntmps180
  go_wp2_with fail
  refine HR.out.mono ?_
  rintro e w1 ⟨rfl, hb⟩
  have HB1 := Lib.hid (((Below.refl w.heap.size w).alloc (Nat.le_refl _) (.cells #[.int .i64 1, .slice a m c, .slice a2 n c2] 42)).trans (hb.mono (by simp)))
  have o1 := (Own.new w 42 [.int .i64 1, .slice a m c, .slice a2 n c2]).below hb (by simp)
  have c0 := o1.cell 0
  have c1 := o1.cell 1
  have c2' := o1.cell 2
  simp at c0 c1 c2'
  have HO1 := Lib.hid o1
  clear hb o1
  go_wp2_with fail
  refine (HH.out _).mono ?_
  rintro e w2 ⟨rfl, hb⟩
  have HB2 := Lib.hid (HB1.out.trans (hb.mono HB1.out.size))
  have HO2 := Lib.hid (HO1.out.below hb HO1.out.lt)
  have c2'' := HO2.out.cell 2
  simp at c2''
  have HZ2 := Lib.hid (Nat.lt_of_lt_of_le HO1.out.lt hb.size)
  have hz2 : w.heap.size < w2.heap.size := Nat.lt_of_lt_of_le HO1.out.lt hb.size
  clear hb c0 c1 c2'
  go_wp2_with fail
  obtain ⟨hd0, HD0⟩ : ∃ h, Hid (headN n m = h) := ⟨_, Lib.hid rfl⟩
  rw [HD0.out]
  have HLst0 : Hid (Lst (w2.alloc (.cells #[.int .u64 (hd0 : Int)] 37)) (w.heap.size + 1) 37 (.slice (some ⟨w2.heap.size, 0, none⟩) 1 1) (u64s (hd0 :: (x.b.take 0).map fieldN))) :=
    Lib.hid ((Own.new w2 37 (u64s [hd0])).lst (by omega) 1 rfl (by decide))
  have hnn : (0 : Int) ≤ (n : Int) := by omega
  go_loopw [4, 22] (fun s4 i wr => ∃ (k : Nat) (al : Option Addr) (nl cl : Nat), k ≤ n ∧ i = .int .i64 (k : Int) ∧ s4 = .slice al nl cl ∧ Hid (Lst wr (w.heap.size + 1) 37 (.slice al nl cl) (u64s (hd0 :: (x.b.take k).map fieldN))) ∧ Hid (Below (w.heap.size + 1) w2 wr)) (fun _ i _ => n - (Go.RowKit.intOf i).toNat)
  case atStart => exact ⟨0, _, _, _, Nat.zero_le _, rfl, rfl, HLst0, Lib.hid ((Below.refl _ _).alloc (by omega) _)⟩
  case round =>
    obtain ⟨k, al, nl, cl, hk, rfl, rfl, HL, HBr⟩ := hrel
    have hzr : w.heap.size < wr.heap.size := Nat.lt_of_lt_of_le hz2 HBr.out.size
    have HBw : Hid (Below w.heap.size w wr) := Lib.hid (HB2.out.trans (HBr.out.mono (by omega)))
    have HOr := Lib.hid (HO2.out.below HBr.out (Nat.lt_succ_self _))
    by_cases hlt : k < n
    · have hkL : k < x.b.length := by rw [HN.out]; exact hlt
      obtain ⟨b, off, rfl, hb, hc⟩ := (HRO.out.below HBw.out hB).bk (by omega)
      obtain ⟨c1, c2, c3⟩ := hc k hkL
      have HV := Lib.hid (vals_take x k hkL)
      have hat := backsOk_at HBK.out k hkL
      have hft := HF.out _ (bk_mem hkL)
      clear hc
      have HFt := Lib.hid hft
      have HAt := Lib.hid hat
      generalize bk x.b k = y at *
      have HC := Lib.hid (fun W => fieldOf_any y W (by have := HAt.out; omega) HAt.out.2.2.1 (by have := HFt.out; unfold FitB at this; omega) (by have := HFt.out; unfold FitB at this; omega))
      have hk0 : (0 : Int) ≤ (k : Int) := by omega
      have hk1 : (k : Int) < (n : Int) := by omega
      clear hat hft
      go_wp2_with fail
      refine (HC.out _).mono ?_
      rintro e w4 ⟨rfl, hb4⟩
      have HB4 : Hid (Below (w.heap.size + 1) w2 w4) := Lib.hid ((HBr.out.alloc (by omega) _).trans (hb4.mono (by simp; omega)))
      have HL4 := Lib.hid ((HL.out.alloc (.cells #[.int .i64 y.1, .int .u64 (y.2.1 : Int), .int .u64 (y.2.2 : Int)] 143)).below hb4 (Nat.le_refl _))
      have HZ4 : Hid (w.heap.size < w4.heap.size) := Lib.hid (Nat.lt_of_lt_of_le hz2 HB4.out.size)
      have HLen : Hid ((u64s (hd0 :: (x.b.take k).map fieldN)).length ≤ 5) := Lib.hid (by rw [u64s_length, List.length_cons, List.length_map, List.length_take]; omega)
      clear hb4
      go_wp2_with (at_builtin; refine wpList_app1 rfl (.tmp 26) (.tmp 29) 79 rfl (w.heap.size + 1) 37 (.int .u64 0) 8 Tryz.underlying79 Tryz.info_u64 rfl (.int .u64 (fieldN y : Int)) rfl (.slice al nl cl) (u64s (hd0 :: (x.b.take k).map fieldN)) rfl HL4.out rfl (by have := HLen.out; omega) (by have := HLen.out; omega) (w.heap.size + 1) w2 HB4.out (Nat.le_refl _) HZ4.out ?_)
      intro v' w5 hl5 hb5 hs5
      have HL5 := Lib.hid hl5.out
      have HB5 := Lib.hid hb5
      clear hl5 hb5 hs5
      obtain ⟨al', cl', rfl, _, _, _⟩ := HL5.out.form
      go_wp2_with fail
      go_roundw
      case rel =>
        have hV := HV.out
        rw [HN.out, HM.out, HD0.out] at hV
        refine ⟨k + 1, _, _, _, by omega, by go_num, rfl, ?_, HB5⟩
        rw [hV]
        have := HL5.out
        simpa [u64s] using Lib.hid this
      case measure => simp [Go.RowKit.intOf]; omega
    · obtain rfl : k = n := by omega
      have c2r := HOr.out.cell 2
      simp at c2r
      have hnl : nl = k + 1 := by
        obtain ⟨a', c', he, _, _, _⟩ := HL.out.form
        injection he with _ h2 _
        rw [h2, u64s_length, List.length_cons, List.length_map, List.length_take, HN.out]
        omega
      subst hnl
      have hvals : vals x = hd0 :: (x.b.take k).map fieldN := by
        unfold vals
        rw [List.take_of_length_le (by rw [HN.out]; exact Nat.le_refl _), HN.out, HM.out, HD0.out]
      have HL2 := HL.out
      rw [← hvals] at HL2
      have HL3 := Lib.hid HL2
      have HPK : Hid (∀ W aw cw, Ro W W.heap.size aw (i64s (wid k)) → Ro W W.heap.size al (u64s (vals x)) → Calls Tryz.prog 179 #[.slice aw (k + 1) cw, .slice al (k + 1) cl] W fun e w' => ∃ (g : Nat) (cs : List UInt8) (p : Nat), p = cs.length ∧ e = .returned (.tuple #[.slice (some ⟨g, 0, none⟩) p p, .bool true]) ∧ W.heap.size ≤ g ∧ IsPack (wid k) (vals x) cs ∧ Own w' g 5 (u8s cs) ∧ Below W.heap.size W w') := by
        apply Lib.hid
        intro W aw cw g1 g2
        have := pack_yes (wid k) (vals x) aw al cw cl W.heap.size W g1 g2 (Nat.le_refl _) (by simp; omega) (by have := HP.out; rwa [HN.out] at this)
        rw [wid_length, vals_length, HN.out] at this
        refine this.mono ?_
        rintro e w' ⟨g, cs, h1, h2, h3, h4, h5⟩
        exact ⟨g, cs, _, rfl, h1, h2, h3, h4, h5⟩
      clear HL2 hvals HL
      go_wp2_with fail
      refine (widths_any k _ (by omega)).mono ?_
      rintro e w6 ⟨aw, cw, rfl, hrw, hb6⟩
      have HRW := Lib.hid hrw
      have HL6 := Lib.hid (HL3.out.below hb6 (Nat.le_refl _))
      have HB6 := Lib.hid (HBw.out.trans (hb6.mono HBw.out.size))
      have HO6 := Lib.hid (HOr.out.below hb6 hzr)
      clear hrw hb6
      go_wp2_with fail
      refine (HPK.out _ _ _ HRW.out (by
        obtain ⟨a', c', he, hr, _, _⟩ := HL6.out.form
        injection he with h1 _ _
        subst h1
        exact hr)).mono ?_
      rintro e w7 ⟨g, cs, p, hp, rfl, hg, hpk, hown, hb7⟩
      have HPp := Lib.hid hp
      have HPK2 := Lib.hid hpk
      have HG := Lib.hid (Nat.le_trans HB6.out.size hg)
      have HOwn := Lib.hid hown
      have HB7 := Lib.hid (HB6.out.trans (hb7.mono HB6.out.size))
      have o7 := HO6.out.below hb7 HO6.out.lt
      have d1 := o7.cell 1
      simp at d1
      have hpl : p ≤ 100 := by
        have := hpk.1
        rw [wid_sum] at this
        omega
      clear hp hpk hown hb7 o7 hg
      have HLs : Hid (Lst w7 w.heap.size 5 (.slice (some ⟨g, 0, none⟩) p p) (u8s cs)) := Lib.hid (HOwn.out.lst HG.out p (by rw [u8s_length]; exact HPp.out.symm) (by unfold maxLen; omega))
      have HCl : Hid ((u8s cs).length = p) := Lib.hid (by rw [u8s_length]; exact HPp.out.symm)
      go_wp2_with (at_builtin; refine wpList_appB rfl (.tmp 43) (.tmp 45) 39 rfl w.heap.size 5 (.int .u8 0) 1 Tryz.underlying39 Tryz.info_u8 rfl (.slice (some ⟨g, 0, none⟩) p p) (u8s cs) rfl HLs.out a B m c (u8s x.d) rfl (by rw [u8s_length]; exact HM.out) (HRO0.out.below HB7.out hB) (u8s_oneCell _) (by have := HCl.out; omega) (by have := HCl.out; omega) w.heap.size w HB7.out (Nat.le_refl _) HB7.out.size ?_)
      intro v' w8 hl8 hb8 hs8
      have HL8 := Lib.hid hl8.out
      have HB8 := Lib.hid hb8
      clear hl8 hb8 hs8
      obtain ⟨a8, c8, rfl, hr8, hc8, _⟩ := HL8.out.form
      have HR8 := Lib.hid hr8
      have HC8 := Lib.hid (And.intro hc8 (HL8.out.cap_le))
      clear hr8 hc8
      go_wp2_with fail
      go_ret2
      have e8 : u8s cs ++ u8s x.d = u8s (cs ++ x.d) := by simp [u8s]
      refine ⟨cs ++ x.d, a8, c8, by rw [e8, u8s_length]; rfl, .inr ⟨HK.out, cs, by rw [HN.out]; exact HPK2.out, rfl⟩, by rw [← e8]; exact HR8.out, by have := HC8.out; rw [e8, u8s_length] at this; exact this, HB8.out⟩
theorem enc_yes (x : Ce) (a : Option Addr) (c : Nat) (a2 : Option Addr) (c2 B : Nat) (w : World) (hro0 : Ro w B a (u8s x.d)) (hro : Ro w B a2 (bcs x.b)) (hB : B ≤ w.heap.size) (hfit : ∀ b ∈ x.b, FitB b) (hr : right x = true) :
    Calls Tryz.prog 180 #[cev x.k a x.d.length c a2 x.b.length c2] w fun e w' => ∃ bs a' c', e = .returned (.tuple #[.slice a' bs.length c', .int .i64 0]) ∧ IsEnc x bs ∧ Ro w' w'.heap.size a' (u8s bs) ∧ (bs.length ≤ c' ∧ c' ≤ maxLen) ∧ Below w.heap.size w w' := by
  rcases right_kind hr with hk | hk
  · have := enc_data x a c a2 c2 B w hro0 hro hB hfit hk hr
    rw [← hk] at this
    exact this
  · obtain rfl := right_junk hr hk
    refine (enc_junk a c a2 c2 w).mono ?_
    rintro e w' ⟨g, rfl, ho, hb⟩
    exact ⟨[2], some ⟨g, 0, none⟩, 1, rfl, .inl ⟨rfl, rfl⟩, ho.ro _ ho.lt, ⟨Nat.le_refl _, by decide⟩, hb⟩
end Go.Proofs.YtmpajlpemabniaaGreat
namespace Go.Proofs.YtmpajlpemabniaaGreat
open Go.RowKit Go.Deep
set_option linter.unusedVariables false
set_option linter.unusedSimpArgs false
theorem eq_two (d : Nat) (p q p' q' : Nat) (w : World) : (Op.equalIn (d + 2) 141 (.agg #[.int .u64 (p : Int), .int .u64 (q : Int)]) (.agg #[.int .u64 (p' : Int), .int .u64 (q' : Int)])).run Tryz.prog w = .ok (decide (p = p' ∧ q = q')) w := by
  have hu : Tryz.prog.underlying 141 = some (.array 2 37) := by kernel_rfl
  have hz : (Go.sizeOf 37).run Tryz.prog w = .ok 1 w := Tryz.sizeOf37 w
  rw [Op.equalIn]
  simp only [Sem.run_bind, run_underlying hu, Result.andThen_ok, hz, Std.Legacy.Range.forIn_eq_forIn_range']
  rw [show (List.range' 0 [:2].size) = [0, 1] from rfl]
  have g0 : ∀ (x y : Value), (part 37 #[x, y] 0).run Tryz.prog w = .ok x w := fun x y => run_part_cell Tryz.underlying37 rfl w
  have g1 : ∀ (x y : Value), (part 37 #[x, y] 1).run Tryz.prog w = .ok y w := fun x y => run_part_cell Tryz.underlying37 rfl w
  have ge : ∀ (x y : Int), (Op.equalIn (d + 1) 37 (.int .u64 x) (.int .u64 y)).run Tryz.prog w = .ok (x == y) w := fun x y => run_equalIn_int w d 37 .u64 .u64 _ _ Tryz.underlying37
  by_cases h1 : p = p'
  · subst h1
    by_cases h2 : q = q'
    · subst h2
      simp [g0, g1, ge]
    · have h3 : ((q : Int) == (q' : Int)) = false := by rw [beq_eq_false_iff_ne]; omega
      simp [g0, g1, ge, h2, h3]
  · have h3 : ((p : Int) == (p' : Int)) = false := by rw [beq_eq_false_iff_ne]; omega
    simp [g0, g1, ge, h1, h3]
theorem eq_back (x y : Bk) (w : World) : (Op.equalIn 10000 143 (bkv x) (bkv y)).run Tryz.prog w = .ok (decide (x = y)) w := by
  obtain ⟨s, p, q⟩ := x
  obtain ⟨s', p', q'⟩ := y
  have he := eq_two 9997 p q p' q' w
  have ge : ∀ (x y : Int), (Op.equalIn 9999 3 (.int .i64 x) (.int .i64 y)).run Tryz.prog w = .ok (x == y) w := fun x y => run_equalIn_int w 9998 3 .i64 .i64 _ _ Tryz.underlying3
  refine (run_equalIn_struct w 9999 143 _ _ (by kernel_rfl) (by kernel_rfl)).trans ?_
  have g0 : ∀ (x y z : Value), (part 3 #[x, y, z] 0).run Tryz.prog w = .ok x w := fun x y z => run_part_cell Tryz.underlying3 rfl w
  have gp : ∀ (x y z : Value), (part 141 #[x, y, z] 1).run Tryz.prog w = .ok (.agg #[y, z]) w := fun x y z => by
    have hz : (Go.sizeOf 141).run Tryz.prog w = .ok 2 w := Tryz.sizeOf141 w
    unfold part
    have ha : (isAgg 141).run Tryz.prog w = .ok true w := by
      unfold isAgg; rw [Sem.run_bind, run_underlying (show Tryz.prog.underlying 141 = some (.array 2 37) by kernel_rfl) w]; rfl
    rw [Sem.run_bind, ha]
    simp [hz]
  simp [Program.fieldsOf, Tryz.underlying143, Op.eqFields, g0, ge, gp, he]
  by_cases h1 : s = s'
  · by_cases h2 : p = p' ∧ q = q'
    · simp [h1, h2]
    · have h3 : (decide (p = p') && decide (q = q')) = false := by
        rw [← Bool.decide_and]; exact decide_eq_false h2
      have h4 : p = p' → ¬ q = q' := fun h hq => h2 ⟨h, hq⟩
      rw [if_pos h1, if_pos h4]
      simp [h1, h3]
  · simp [h1]
theorem neq_back (x y : Bk) (w : World) : (binOp .neq 143 (bkv x) (bkv y)).run Tryz.prog w = .ok (.bool (!decide (x = y))) w := by
  rw [run_neq_struct, eq_back]; rfl
end Go.Proofs.YtmpajlpemabniaaGreat
namespace Go.Proofs.YtmpajlpemabniaaGreat
open Go.RowKit Go.Deep
set_option linter.unusedVariables false
set_option linter.unusedSimpArgs false
set_option maxHeartbeats 400000 in
theorem bytesEqual_any (xs ys : List UInt8) (n m : Nat) (a a2 : Option Addr) (c c2 B : Nat) (w : World) (hn : xs.length = n) (hm : ys.length = m) (h : Ro w B a (u8s xs)) (h2 : Ro w B a2 (u8s ys)) :
    Calls Tryz.prog 72 #[.slice a n c, .slice a2 m c2] w fun e w' => e = .returned (.bool (decide (xs = ys))) ∧ w' = w := by
  have e1 := conv_ro (c := c) h hn
  have e2 := conv_ro (c := c2) h2 hm
  have HN := Lib.hid hn
  have HM := Lib.hid hm
  clear hn hm
  go_enter Tryz.func72, Tryz.ntmps72
  go_wp2
  go_ret
  refine ⟨ret_bool ?_, rfl⟩
  by_cases e : xs = ys <;> simp [e]
theorem take_succ_eqB {A B : List Bk} {k : Nat} (ha : k < A.length) (hb : k < B.length) (ht : A.take k = B.take k) (he : bk A k = bk B k) : A.take (k + 1) = B.take (k + 1) := by
  rw [bk_take ha, bk_take hb, ht, he]
theorem ne_of_bk {A B : List Bk} {k : Nat} (he : bk A k ≠ bk B k) : decide (A = B) = false := by
  simp only [decide_eq_false_iff_not]
  rintro rfl
  exact he rfl
set_option maxHeartbeats 2000000 in
theorem equalBacks_any (w : World) (a b : Option Addr) (A B : List Bk) (c d n m B0 : Nat) (hn : A.length = n) (hm : B.length = m) (ha : Ro w B0 a (bcs A)) (hb : Ro w B0 b (bcs B)) (hl : n ≤ 9223372036854775807) (hl2 : m ≤ 9223372036854775807) :
    Calls Tryz.prog 73 #[.slice a n c, .slice b m d] w fun e w' => e = .returned (.bool (decide (A = B))) ∧ Qt w w' := by
  have HN := Lib.hid hn
  have HM := Lib.hid hm
  have HA := Lib.hid ha
  have HB := Lib.hid hb
  clear ha hb hn hm
  go_enter Tryz.func73, Tryz.ntmps73
  by_cases hnm : n = m
  · subst hnm
    go_wp2_with fail
    go_loopw [13] (fun i wr => ∃ k : Nat, i = .int .i64 k ∧ k ≤ n ∧ Hid (A.take k = B.take k) ∧ Qt w wr) (fun i _ => n - (Go.RowKit.intOf i).toNat)
    case atStart => exact ⟨0, rfl, Nat.zero_le _, Lib.hid rfl, Qt.refl _⟩
    case round =>
      obtain ⟨k, rfl, hk, HT, hq⟩ := hrel
      by_cases hlt : k < n
      · have hkA : k < A.length := by rw [HN.out]; exact hlt
        have hkB : k < B.length := by rw [HM.out]; exact hlt
        obtain ⟨g, off, rfl, hg, hcl⟩ := (HA.out.qt hq).bk (by omega)
        obtain ⟨g', off', rfl, hg', hcl'⟩ := (HB.out.qt hq).bk (by omega)
        obtain ⟨h1, h2, h3⟩ := hcl k hkA
        obtain ⟨h4, h5, h6⟩ := hcl' k hkB
        have HTS := Lib.hid (take_succ_eqB hkA hkB HT.out)
        have HNE := Lib.hid (@ne_of_bk A B k)
        clear hcl hcl'
        generalize bk A k = x at *
        generalize bk B k = y at *
        have hk0 : (0 : Int) ≤ (k : Int) := by omega
        have hk1 : (k : Int) < (n : Int) := by omega
        have HQ := Lib.hid hq
        clear hq
        by_cases hxy : x = y
        · subst hxy
          have hN : ∀ W, (binOp .neq 143 (bkv x) (bkv x)).run Tryz.prog W = .ok (.bool false) W := fun W => by rw [neq_back]; simp
          go_wp2_with fail
          go_region
          go_wp2_with fail
          go_roundw
          case rel => exact ⟨k + 1, by go_num, by omega, Lib.hid (HTS.out trivial), by first | exact HQ.out | exact HQ.out.trans ⟨1, rfl⟩⟩
          case measure => simp [Go.RowKit.intOf]; omega
        · have hN : ∀ W, (binOp .neq 143 (bkv x) (bkv y)).run Tryz.prog W = .ok (.bool true) W := fun W => by rw [neq_back]; simp [hxy]
          have HF := Lib.hid (HNE.out hxy)
          go_wp2_with fail
          go_region
          go_wp2_with fail
          go_ret
          exact ⟨by rw [HF.out]; rfl, by first | exact HQ.out | exact HQ.out.trans ⟨1, rfl⟩⟩
      · have ht' : decide (A = B) = true := by
          have ht := HT.out
          rw [List.take_of_length_le (by rw [HN.out]; omega), List.take_of_length_le (by rw [HM.out]; omega)] at ht
          simpa using ht
        obtain rfl : k = n := by omega
        have HF := Lib.hid ht'
        clear ht'
        go_wp2_with fail
        go_ret
        exact ⟨by rw [HF.out]; rfl, hq⟩
  · have hd0 : ((n : Int) != (m : Int)) = true := by rw [bne_iff_ne]; omega
    have HF := Lib.hid (show decide (A = B) = false by simp only [decide_eq_false_iff_not]; rintro rfl; exact hnm (HN.out.symm.trans HM.out))
    go_wp2_with fail
    go_ret
    exact ⟨by rw [HF.out]; rfl, Qt.refl _⟩
def alike (x y : Ce) : Bool := decide (x.k = y.k) && decide (x.d = y.d) && decide (x.b = y.b)
theorem alike_iff {x y : Ce} : alike x y = true ↔ x = y := by
  unfold alike
  simp only [Bool.and_eq_true, decide_eq_true_eq]
  constructor
  · rintro ⟨⟨h1, h2⟩, h3⟩; exact Ce.ext' h1 h2 h3
  · rintro rfl; exact ⟨⟨rfl, rfl⟩, rfl⟩
set_option maxHeartbeats 1000000 in
theorem same_any (x y : Ce) (a : Option Addr) (c : Nat) (a2 : Option Addr) (c2 : Nat) (b : Option Addr) (d : Nat) (b2 : Option Addr) (d2 B : Nat) (w : World) (hx : Ro w B a (u8s x.d)) (hx2 : Ro w B a2 (bcs x.b)) (hy : Ro w B b (u8s y.d)) (hy2 : Ro w B b2 (bcs y.b)) (hB : B ≤ w.heap.size)
    (hl : x.b.length ≤ 9223372036854775807) (hl2 : y.b.length ≤ 9223372036854775807) :
    Calls Tryz.prog 33 #[cev x.k a x.d.length c a2 x.b.length c2, cev y.k b y.d.length d b2 y.b.length d2] w fun e w' => e = .returned (.bool (alike x y)) ∧ Below w.heap.size w w' := by
  obtain ⟨k, l, L⟩ := x
  obtain ⟨k', l', L'⟩ := y
  simp only at hx hx2 hy hy2 hl hl2 ⊢
  have hbA : Below B w ((w.alloc (.cells #[.int .i64 k, .slice a l.length c, .slice a2 L.length c2] 42)).alloc (.cells #[.int .i64 k', .slice b l'.length d, .slice b2 L'.length d2] 42)) := ((Below.refl B w).alloc hB _).alloc (by simp; omega) _
  have H1 := Lib.hid (bytesEqual_any l l' l.length l'.length a b c d B _ rfl rfl (hx.below hbA (Nat.le_refl _)) (hy.below hbA (Nat.le_refl _)))
  have H2 := Lib.hid (equalBacks_any _ a2 b2 L L' c2 d2 L.length L'.length B rfl rfl (hx2.below hbA (Nat.le_refl _)) (hy2.below hbA (Nat.le_refl _)) hl hl2)
  obtain ⟨t, HT⟩ : ∃ t, Hid (alike ⟨k, l, L⟩ ⟨k', l', L'⟩ = t) := ⟨_, Lib.hid rfl⟩
  rw [HT.out]
  obtain ⟨t1, HT1⟩ : ∃ t, Hid (decide (l = l') = t) := ⟨_, Lib.hid rfl⟩
  obtain ⟨t2, HT2⟩ : ∃ t, Hid (decide (L = L') = t) := ⟨_, Lib.hid rfl⟩
  rw [HT1.out] at H1
  rw [HT2.out] at H2
  clear hbA hx hx2 hy hy2
  generalize l.length = n at *
  generalize l'.length = n' at *
  generalize L.length = m at *
  generalize L'.length = m' at *
  by_cases e1 : k = k'
  · subst e1
    cases t1 with
    | true =>
      obtain rfl : t = t2 := by rw [← HT.out]; unfold alike; simp only [HT1.out, HT2.out]; simp
      go_enter Tryz.func33, Tryz.ntmps33
      go_wp2_with fail
      refine H1.out.mono ?_
      rintro e w' ⟨rfl, rfl⟩
      go_wp2_with fail
      refine H2.out.mono ?_
      rintro e w' ⟨rfl, hq⟩
      have HQ := Lib.hid hq
      clear hq
      go_wp2_with fail
      go_ret
      exact ⟨rfl, HQ.out.below (((Below.refl _ _).alloc (Nat.le_refl _) _).alloc (by simp) _)⟩
    | false =>
      obtain rfl : t = false := by rw [← HT.out]; unfold alike; simp only [HT1.out]; simp
      go_enter Tryz.func33, Tryz.ntmps33
      go_wp2_with fail
      refine H1.out.mono ?_
      rintro e w' ⟨rfl, rfl⟩
      go_wp2_with fail
      go_ret
      exact ⟨rfl, ((Below.refl _ _).alloc (Nat.le_refl _) _).alloc (by simp) _⟩
  · obtain rfl : t = false := by rw [← HT.out]; unfold alike; simp [e1]
    have h1 : (k == k') = false := by rw [beq_eq_false_iff_ne]; omega
    clear e1
    go_enter Tryz.func33, Tryz.ntmps33
    go_wp2_with fail
    go_ret
    exact ⟨rfl, ((Below.refl _ _).alloc (Nat.le_refl _) _).alloc (by simp) _⟩
end Go.Proofs.YtmpajlpemabniaaGreat
namespace Go.Proofs.YtmpajlpemabniaaGreat
open Go.RowKit Go.Deep
set_option linter.unusedVariables false
set_option linter.unusedSimpArgs false
set_option maxHeartbeats 1000000 in
theorem decode_j (a : Option Addr) (c B : Nat) (w : World) (h : Ro w B a (u8s [2])) (hB : B ≤ w.heap.size) :
    Calls Tryz.prog 89 #[.slice a 1 c] w fun e w' => e = .returned (.tuple #[cev 2 none 0 0 none 0 0, .int .i64 0]) ∧ Below w.heap.size w w' := by
  obtain ⟨b, off, rfl, hb0, hcl⟩ := h.u8 (by simp)
  have hc0 := hcl 0 (by simp)
  have hblt : b < w.heap.size := by omega
  change w.cell? ⟨b, off, none⟩ = some (.int .u8 2) at hc0
  clear h hcl
  go_enter Tryz.func89, Tryz.ntmps89
  go_wp2_with fail
  refine bodyPost_ret (v := .tuple #[cev 2 none 0 0 none 0 0, .int .i64 0]) (by simp [results, Tryz.results89, go_sem]) rfl ⟨rfl, ?_⟩
  exact (Below.refl w.heap.size w).alloc (Nat.le_refl _) _
theorem dec_yes (bs : List UInt8) (n : Nat) (a : Option Addr) (c B : Nat) (w : World) (hn : bs.length = n) (h : Ro w B a (u8s bs)) (hB : B ≤ w.heap.size) (hnc : n ≤ c) (hc : c ≤ 9223372036854775807) (hl : n ≤ 1000000) (x : Ce) (hx : IsEnc x bs) (hr : right x = true) :
    Calls Tryz.prog 89 #[.slice a n c] w (DcP w x (.int .i64 0)) := by
  rcases right_kind hr with hk | hk
  · exact decode_c bs n a c B w hn h hB hnc hc hl x (dec_of_enc hx hr hk) hr
  · obtain rfl := right_junk hr hk
    rcases hx with ⟨_, rfl⟩ | ⟨h1, _⟩
    · subst hn
      refine (decode_j a c B w h hB).mono ?_
      rintro e w' ⟨rfl, hb⟩
      exact ⟨none, 0, none, 0, rfl, Ro.nil _ _ _, Ro.nil _ _ _, (fun ad e => nomatch e), (fun ad e => nomatch e), hb⟩
    · simp at h1
set_option maxHeartbeats 400000 in
theorem fits_any (k : Int) (a : Option Addr) (n c : Nat) (a2 : Option Addr) (n2 c2 : Nat) (w : World) :
    Calls Tryz.prog 48 #[cev k a n c a2 n2 c2] w fun e w' => e = .returned (.bool (decide (n ≤ 400) && decide (n2 ≤ 30))) ∧ Below w.heap.size w w' := by
  by_cases h : n ≤ 400
  · have h1 : decide (n ≤ 400) = true := by simpa using h
    rw [h1, Bool.true_and]
    go_enter Tryz.func48, Tryz.ntmps48
    go_wp2_with fail
    go_ret
    exact ⟨ret_bool (by rw [decide_eq_decide]; omega), (Below.refl _ _).alloc (Nat.le_refl _) _⟩
  · have h1 : decide (n ≤ 400) = false := by simpa using h
    rw [h1, Bool.false_and]
    go_enter Tryz.func48, Tryz.ntmps48
    go_wp2_with fail
    go_ret
    exact ⟨rfl, (Below.refl _ _).alloc (Nat.le_refl _) _⟩
end Go.Proofs.YtmpajlpemabniaaGreat
namespace Go.Proofs.YtmpajlpemabniaaGreat
open Go.RowKit Go.Maps Go.Shelf Go.Deep
set_option linter.unusedVariables false
set_option linter.unusedSimpArgs false
structure CellV (w : World) (C : List Nat) (A : CeT) : Prop where
  d : Ro w w.heap.size A.a (u8s A.x.d)
  b : Ro w w.heap.size A.a2 (bcs A.x.b)
  da : A.x.d ≠ [] → ∀ ad, A.a = some ad → ad.block ∈ C
  ba : A.x.b ≠ [] → ∀ ad, A.a2 = some ad → ad.block ∈ C
theorem Ro.chg2 {l : List Nat} {w w' : World} {a : Option Addr} {vs : List Value} (h : Ro w w.heap.size a vs) (hc : Chg l w w') (hl : ∀ ad, a = some ad → ad.block ∉ l) : Ro w' w'.heap.size a vs :=
  (h.chgs2 hc (fun _ => hl)).mono hc.size
theorem Ro.chg3 {l : List Nat} {w w' : World} {a : Option Addr} {vs : List Value} (h : Ro w w.heap.size a vs) (hc : Chg l w w') (hl : vs ≠ [] → ∀ ad, a = some ad → ad.block ∉ l) : Ro w' w'.heap.size a vs :=
  (h.chgs2 hc hl).mono hc.size
theorem CellV.chg {l : List Nat} {w w' : World} {C : List Nat} {A : CeT} (h : CellV w C A) (hc : Chg l w w') (hl : ∀ x ∈ C, x ∉ l) : CellV w' C A :=
  ⟨h.d.chg3 hc (fun h0 ad e => hl _ (h.da (fun e0 => h0 (by rw [e0]; rfl)) ad e)), h.b.chg3 hc (fun h0 ad e => hl _ (h.ba (fun e0 => h0 (by rw [e0]; rfl)) ad e)), h.da, h.ba⟩
theorem CellV.mono {w : World} {C C' : List Nat} {A : CeT} (h : CellV w C A) (hC : ∀ x ∈ C, x ∈ C') : CellV w C' A := ⟨h.d, h.b, fun h0 ad e => hC _ (h.da h0 ad e), fun h0 ad e => hC _ (h.ba h0 ad e)⟩
structure NewC (w w' : World) (A : CeT) : Prop where
  d : Ro w' w'.heap.size A.a (u8s A.x.d)
  b : Ro w' w'.heap.size A.a2 (bcs A.x.b)
  da : ∀ ad, A.a = some ad → w.heap.size ≤ ad.block
  ba : ∀ ad, A.a2 = some ad → w.heap.size ≤ ad.block
def CeT.blocks (A : CeT) : List Nat := (if A.x.d.length = 0 then [] else (A.a.map (·.block)).toList) ++ (if A.x.b.length = 0 then [] else (A.a2.map (·.block)).toList)
theorem CeT.mem_a {A : CeT} {ad : Addr} (h0 : A.x.d ≠ []) (h : A.a = some ad) : ad.block ∈ A.blocks := by
  have h1 : ¬ A.x.d.length = 0 := fun e => h0 (List.eq_nil_of_length_eq_zero e)
  simp only [CeT.blocks, if_neg h1, h]; simp
theorem CeT.mem_b {A : CeT} {ad : Addr} (h0 : A.x.b ≠ []) (h : A.a2 = some ad) : ad.block ∈ A.blocks := by
  have h1 : ¬ A.x.b.length = 0 := fun e => h0 (List.eq_nil_of_length_eq_zero e)
  simp only [CeT.blocks, if_neg h1, h]; simp
theorem NewC.cellV {w w' : World} {A : CeT} (h : NewC w w' A) : CellV w' A.blocks A := ⟨h.d, h.b, fun h0 _ e => CeT.mem_a h0 e, fun h0 _ e => CeT.mem_b h0 e⟩
theorem CeT.blocks_of {A : CeT} {x : Nat} (hx : x ∈ A.blocks) : (A.x.d ≠ [] ∧ ∃ ad, A.a = some ad ∧ x = ad.block) ∨ (A.x.b ≠ [] ∧ ∃ ad, A.a2 = some ad ∧ x = ad.block) := by
  unfold CeT.blocks at hx
  rcases List.mem_append.1 hx with hx | hx
  · by_cases h0 : A.x.d.length = 0
    · rw [if_pos h0] at hx; cases hx
    · rw [if_neg h0] at hx
      refine .inl ⟨fun e => h0 (by rw [e]; rfl), ?_⟩
      cases ha : A.a with
      | none => rw [ha] at hx; simp at hx
      | some ad => rw [ha] at hx; simp at hx; exact ⟨ad, rfl, hx⟩
  · by_cases h0 : A.x.b.length = 0
    · rw [if_pos h0] at hx; cases hx
    · rw [if_neg h0] at hx
      refine .inr ⟨fun e => h0 (by rw [e]; rfl), ?_⟩
      cases ha : A.a2 with
      | none => rw [ha] at hx; simp at hx
      | some ad => rw [ha] at hx; simp at hx; exact ⟨ad, rfl, hx⟩
theorem NewC.new {w w' : World} {A : CeT} (h : NewC w w' A) : ∀ x ∈ A.blocks, w.heap.size ≤ x ∧ x < w'.heap.size := by
  intro x hx
  rcases CeT.blocks_of hx with ⟨h0, ad, ha, rfl⟩ | ⟨h0, ad, ha, rfl⟩
  · obtain ⟨g, off, e, hg, _⟩ := h.d.at_ (by intro e; have := congrArg List.length e; simp at this; exact h0 this)
    rw [ha] at e
    injection e with e
    subst e
    exact ⟨h.da _ ha, hg⟩
  · obtain ⟨g, off, e, hg, _⟩ := h.b.at_ (by intro e; have := congrArg List.length e; simp at this; exact h0 (List.eq_nil_of_length_eq_zero (by omega)))
    rw [ha] at e
    injection e with e
    subst e
    exact ⟨h.ba _ ha, hg⟩
theorem bclone_any (bs : List UInt8) (n : Nat) (a : Option Addr) (c B : Nat) (w : World) (hn : bs.length = n) (h : Ro w B a (u8s bs)) (hB : B ≤ w.heap.size) (hl : n ≤ 1000000) :
    Calls Tryz.prog 126 #[.slice a n c] w (ClP w bs n) := by
  cases a with
  | some ad => exact clone_any bs n (some ad) c B w hn h hB (fun e => nomatch e) hl
  | none =>
    have h0 : bs = [] := by
      rcases h with h | ⟨b, off, h, _⟩
      · have := congrArg List.length h; simp at this; exact this
      · cases h
    subst h0
    subst hn
    have hnil := fun W => eql_nil none 0 c W
    simp only [Option.isNone_none] at hnil
    go_enter Tryz.func126, Tryz.ntmps126
    go_wp2
    go_ret
    unfold ClP
    exact ⟨none, 0, rfl, Ro.nil _ _ _, (fun ad h => nomatch h), Below.refl _ _⟩
theorem infoBk : (Tryz.prog.info? 143).map (fun i => (i.zero, i.size, i.bytes)) = some (some (.agg #[.int .i64 0, .int .u64 0, .int .u64 0]), 3, 24) := by kernel_rfl
theorem sizeOfBk (w : World) : (Go.sizeOf 143).run Tryz.prog w = .ok 3 w := by
  obtain ⟨i, hi, hzz⟩ := Option.map_eq_some_iff.1 infoBk
  simp only [Prod.mk.injEq] at hzz
  simp [sizeOf, typeInfo, hi, hzz.2.1]
theorem kclone_empty (w : World) (a : Addr) (c : Nat) :
    Calls Tryz.prog 127 #[.slice (some a) 0 c] w fun e w' => ∃ a' c', e = .returned (.slice a' (0 : Nat) c') ∧ Ro w' w'.heap.size a' (bcs []) ∧ (∀ ad, a' = some ad → w.heap.size ≤ ad.block) ∧ Below w.heap.size w w' := by
  have q22 : ∀ (w : World) (a : Option Addr) (n c n' c' : Nat), (binOp .eql 40 (.slice a n c) (.slice none n' c')).run Tryz.prog w = .ok (.bool a.isNone) w := fun w a n c n' c' => Lib.run_eql_slice_nil w _ _ a n c n' c' Tryz.underlying40
  have hrun : ∀ (ty : TypeId) (W : World), (Builtin.append_ #[40, 40] ty #[.slice (some ⟨W.heap.size, 0, none⟩) 0 0, .slice (some a) 0 c]).run Tryz.prog (W.alloc (.cells #[] 143)) = .ok (.slice (some ⟨W.heap.size, 0, none⟩) 0 0) (W.alloc (.cells #[] 143)) := by
    intro ty W
    obtain ⟨i0, hi0, hzz⟩ := Option.map_eq_some_iff.1 infoBk
    have hl : ∀ (x : Addr) W, (loadCells x 0).run Tryz.prog W = .ok #[] W := fun x W => by simpa using run_loadCells_list (P := Tryz.prog) W x [] (by simp)
    simp [Builtin.append_, run_underlying Tryz.underlying40, sizeOf, typeInfo, hi0, Builtin.lenOf, Builtin.firstCells, storeCells, hl]
  go_enter Tryz.func127, Tryz.ntmps127
  go_wp2_with (at_builtin; refine Lib.wpList_append_run _ rfl _ _ _ _ rfl _ _ rfl rfl _ _ (hrun _ _) ?_)
  go_ret
  exact ⟨some ⟨w.heap.size, 0, none⟩, 0, rfl, Ro.nil _ _ _, (fun ad e => by cases e; exact Nat.le_refl _), (Below.refl _ _).alloc (Nat.le_refl _) _⟩
theorem kclone_any (w : World) (a : Option Addr) (c B : Nat) (L : List Bk) (hro : Ro w B a (bcs L)) (hl : L.length ≤ 1000000) :
    Calls Tryz.prog 127 #[.slice a L.length c] w fun e w' => ∃ a' c', e = .returned (.slice a' L.length c') ∧ Ro w' w'.heap.size a' (bcs L) ∧ (∀ ad, a' = some ad → w.heap.size ≤ ad.block) ∧ Below w.heap.size w w' := by
  rcases a with _ | ⟨b, off, spot⟩
  · have h0 : L.length = 0 := by
      rcases hro with h | ⟨b, off, h, _⟩
      · have := congrArg List.length h; simp at this; omega
      · cases h
    obtain rfl : L = [] := List.eq_nil_of_length_eq_zero h0
    refine (AnyE.slices_Clone_nil cloneK 0 c w).mono fun e w' ⟨he, hw⟩ => ⟨none, 0, he, Ro.nil _ _ _, (fun ad h => nomatch h), by rw [hw]; exact Below.refl _ _⟩
  · obtain ⟨i0, hi0, hzz⟩ := Option.map_eq_some_iff.1 infoBk
    simp only [Prod.mk.injEq] at hzz
    obtain ⟨hz0, hzs, hzb⟩ := hzz
    rcases Nat.eq_zero_or_pos L.length with h0 | h0
    · obtain rfl : L = [] := List.eq_nil_of_length_eq_zero h0
      exact kclone_empty w _ c
    · obtain ⟨b', off', e, hb, hc⟩ := hro.at_ (by intro e; have e2 := congrArg List.length e; simp at e2; omega)
      cases e
      have := AnyE.slices_Clone cloneK i0 (.agg #[.int .i64 0, .int .u64 0, .int .u64 0]) 3 24 hi0 hz0 hzs hzb rfl (by omega) sizeOfBk b off L.length c (bcs L) w (by simp) (by unfold maxLen; omega) (by omega) (fun j u hu => by
        have hj := (List.getElem?_eq_some_iff.1 hu).1
        rw [hc j hj]
        simp [List.getD, hu]) (bcs_one L)
      refine Calls.mono (R' := _) this fun e w' ⟨v, he, hr, _, hb⟩ => ?_
      rcases hr.2 with ⟨rfl, hz⟩ | ⟨g, cap, cur, rfl, hg1, hg2, hg3, hg4, hg5, hg6⟩
      · omega
      · refine ⟨some ⟨g, 0, none⟩, cap, he, ?_, (fun ad e => by cases e; exact hg1), hb⟩
        refine .inr ⟨g, 0, rfl, (Array.getElem?_eq_some_iff.1 hg2).1, fun i hi => ?_⟩
        rw [Nat.zero_add, cell_of_row w' g i cur _ (0, 0) hg2]
        have h9 : cur.toList[i]? = (bcs L)[i]? := by
          rw [← hg6, List.getElem?_take, if_pos (by rw [bcs_length] at hi; exact hi)]
        have h10 : cur[i]? = (bcs L)[i]? := by rw [← h9]; simp
        rw [h10, List.getD_eq_getElem?_getD, List.getElem?_eq_getElem hi]
        rfl
theorem pwidths_any (k : Nat) (h1 : 1 ≤ k) (h5 : k ≤ 5) (w : World) : Calls Tryz.prog 88 #[.int .u64 (k : Int)] w fun e w' => e = .returned (.slice (some ⟨w.heap.size, 0, none⟩) 3 3) ∧ w' = w.alloc (.cells (i64s (wid3 k)).toArray 3) := by
  have hk : k = 1 ∨ k = 2 ∨ k = 3 ∨ k = 4 ∨ k = 5 := by omega
  rcases hk with rfl | rfl | rfl | rfl | rfl <;>
  · go_enter Tryz.func88, Tryz.ntmps88
    go_wp2_with fail
    go_ret
    exact ⟨rfl, rfl⟩
def CpS (w : World) (b1 b2 : Nat) (k : Int) (a : Option Addr) (n c : Nat) (a2 : Option Addr) (m c2 : Nat) (W : World) : Prop :=
  W.cell? ⟨b1, 0, none⟩ = some (.int .i64 k) ∧ W.cell? ⟨b1, 1, none⟩ = some (.slice a n c) ∧ W.cell? ⟨b1, 2, none⟩ = some (.slice a2 m c2) ∧ Chg [] w W ∧
  ∃ r : List Value, r.length = 3 ∧ Own W b2 42 r
theorem CpS.step {w W W' : World} {b1 b2 : Nat} {k : Int} {a : Option Addr} {n c : Nat} {a2 : Option Addr} {m c2 : Nat} (h : CpS w b1 b2 k a n c a2 m c2 W) (hc : Chg [] W W') : CpS w b1 b2 k a n c a2 m c2 W' := by
  obtain ⟨h1, h2, h3, h4, r, h5, h6⟩ := h
  exact ⟨hc.cell h1 (by simp), hc.cell h2 (by simp), hc.cell h3 (by simp), h4.trans hc, r, h5, h6.chg hc (by simp)⟩
theorem cpS_end {w W : World} {b1 b2 : Nat} {k : Int} {a : Option Addr} {n c : Nat} {a2 : Option Addr} {m c2 : Nat} {r1 r2 r3 : Value} (g1 : W.cell? ⟨b1, 0, none⟩ = some (.int .i64 k)) (g2 : W.cell? ⟨b1, 1, none⟩ = some (.slice a n c)) (g3 : W.cell? ⟨b1, 2, none⟩ = some (.slice a2 m c2)) (g4 : Chg [] w W)
    (g6 : Own W b2 42 [r1, r2, r3]) (hb : w.heap.size = b1) (hb2 : b1 ≤ b2 ∧ b1 ≠ b2) (k' : Int) (a5 : Option Addr) (n5 c5 : Nat) (a6 : Option Addr) (m6 c6 : Nat) :
    CpS w b1 b2 k a n c a2 m c2 (((W.setCell ⟨b2, 0, none⟩ (.int .i64 k')).setCell ⟨b2, 1, none⟩ (.slice a5 n5 c5)).setCell ⟨b2, 2, none⟩ (.slice a6 m6 c6)) := by
  have hc : Chg [b2] W (((W.setCell ⟨b2, 0, none⟩ (.int .i64 k')).setCell ⟨b2, 1, none⟩ (.slice a5 n5 c5)).setCell ⟨b2, 2, none⟩ (.slice a6 m6 c6)) :=
    (((Chg.refl [b2] W).setCell (.inl (by simp)) _).setCell (.inl (by simp)) _).setCell (.inl (by simp)) _
  have hn : b1 ∉ [b2] := by simpa using hb2.2
  refine ⟨hc.cell g1 hn, hc.cell g2 hn, hc.cell g3 hn, g4.then hc (fun x hx => .inr (by simp at hx; omega)), _, ?_, ((g6.set 0 _).set 1 _).set 2 _⟩
  rfl
set_option maxHeartbeats 1000000 in
theorem copyOf_any (A : CeT) (C : List Nat) (w : World) (h : CellV w C A) (hd : A.x.d.length ≤ 1000000) (hb : A.x.b.length ≤ 1000000) :
    Calls Tryz.prog 70 #[A.val] w fun e w' => ∃ A' : CeT, e = .returned A'.val ∧ A'.x = A.x ∧ Hid (NewC w w' A') ∧ Chg [] w w' := by
  obtain ⟨⟨k, d, b⟩, a, c, a2, c2⟩ := A
  unfold CeT.val
  obtain ⟨h1, h2, _, _⟩ := h
  simp only at h1 h2 hd hb ⊢
  obtain ⟨n, hn⟩ : ∃ n, Hid (d.length = n) := ⟨_, Lib.hid rfl⟩
  obtain ⟨m, hm⟩ : ∃ n, Hid (b.length = n) := ⟨_, Lib.hid rfl⟩
  have HR := Lib.hid (And.intro h1 h2)
  have H1 := Lib.hid (fun W (hW : Chg [] w W) => bclone_any d n a c w.heap.size W hn.out (h1.below hW.low (Nat.le_refl _)) hW.size (by rw [← hn.out]; exact hd))
  have H2 := Lib.hid (fun W (hW : Chg [] w W) => kclone_any W a2 c2 w.heap.size b (h2.below hW.low (Nat.le_refl _)) hb)
  rw [hm.out] at H2
  rw [hn.out, hm.out]
  clear h1 h2 hd hb
  go_enter Tryz.func70, Tryz.ntmps70
  go_wp2_with fail
  obtain ⟨w1, HW1⟩ : ∃ W, Hid ((w.alloc (.cells #[.int .i64 k, .slice a n c, .slice a2 m c2] 42)).alloc (.cells #[.int .i64 0, .slice none 0 0, .slice none 0 0] 42) = W) := ⟨_, Lib.hid rfl⟩
  have hC1 : Chg [] w w1 := by rw [← HW1.out]; exact ((Chg.refl [] w).alloc _).alloc _
  have ho1 : Own w1 w.heap.size 42 [.int .i64 k, .slice a n c, .slice a2 m c2] := by rw [← HW1.out]; exact (Own.new w _ _).alloc _
  have ho2 : Own w1 (w.heap.size + 1) 42 [.int .i64 0, .slice none 0 0, .slice none 0 0] := by
    rw [← HW1.out]
    have h9 := Own.new (w.alloc (.cells #[.int .i64 k, .slice a n c, .slice a2 m c2] 42)) 42 [.int .i64 0, .slice none 0 0, .slice none 0 0]
    rw [World.size_alloc] at h9
    exact h9
  have HS0 : Hid (CpS w w.heap.size (w.heap.size + 1) k a n c a2 m c2 w1) := Lib.hid ⟨by rw [ho1.cell]; rfl, by rw [ho1.cell]; rfl, by rw [ho1.cell]; rfl, hC1, _, rfl, ho2⟩
  have HB2 : Hid (w.heap.size ≤ w.heap.size + 1 ∧ w.heap.size ≠ w.heap.size + 1) := Lib.hid (by omega)
  rw [HW1.out]
  clear hC1 ho1 ho2
  generalize hb2 : w.heap.size + 1 = b2 at HS0 HB2 ⊢
  clear hb2
  generalize hb1 : w.heap.size = b1 at HS0 HB2 ⊢
  refine wp_region_held_drew (S := (fun W : World => W.cell? ⟨b1, 0, none⟩ = some (.int .i64 k) ∧ W.cell? ⟨b1, 1, none⟩ = some (.slice a n c) ∧ W.cell? ⟨b1, 2, none⟩ = some (.slice a2 m c2) ∧ Chg [] w W ∧ ∃ r : List Value, r.length = 3 ∧ Own W b2 42 r)) (by kernel_rfl) (by have h9 := HS0.out.step (Chg.refl [] w1).drew; exact h9) (fun hHeld => ?_)
  have HB1 := Lib.hid hb1
  clear hb1
  refine tkH (i := 0) (v := ?_) rfl hHeld ?_ ?_
  rotate_left
  · (intro w hSw; first | (go_simp; done) | (go_simp; with_reducible rfl))
  (try simp only [Act.put, sTt, sZz, sSs, sGt, sGs, sGz])
  refine tkH (i := 1) (v := ?_) rfl hHeld ?_ ?_
  rotate_left
  · (intro w hSw; first | (go_simp; done) | (go_simp; with_reducible rfl))
  (try simp only [Act.put, sTt, sZz, sSs, sGt, sGs, sGz])
  refine tkH (i := 2) (v := ?_) rfl hHeld ?_ ?_
  rotate_left
  · (intro w hSw; first | (go_simp; done) | (go_simp; with_reducible rfl))
  (try simp only [Act.put, sTt, sZz, sSs, sGt, sGs, sGz])
  refine tkH (i := 3) (v := ?_) rfl hHeld ?_ ?_
  rotate_left
  · (intro w hSw; first | (go_simp; done) | (go_simp; with_reducible rfl))
  (try simp only [Act.put, sTt, sZz, sSs, sGt, sGs, sGz])
  refine tkH (i := 5) (v := ?_) rfl hHeld ?_ ?_
  rotate_left
  · (intro w hSw; first | (go_simp; done) | (go_simp; with_reducible rfl))
  (try simp only [Act.put, sTt, sZz, sSs, sGt, sGs, sGz])
  refine tkH (i := 6) (v := ?_) rfl hHeld ?_ ?_
  rotate_left
  · (intro w hSw; first | (go_simp; done) | (go_simp; with_reducible rfl))
  (try simp only [Act.put, sTt, sZz, sSs, sGt, sGs, sGz])
  refine wpAnyH_ready (rs := [4]) (by kernel_rfl) (by simp) (AllReadyH.cons rfl (fun K hK => ?_) AllReadyH.nil)
  have hH := hHeld
  (go_simp; go_at_call 126; refine (H1.out _ hH.2.2.2.1).mono ?_; rintro e w5 ⟨a5, c5, rfl, hr5, hn5, hb5⟩)
  refine hK.out _ _ (by exact CpS.step hH (low_chg hb5)) (fun hHq1 => ?_)
  clear hK K hH 
  (try simp only [Act.put, sTt, sZz, sSs, sGt, sGs, sGz])
  refine wpAnyH_ready (rs := [7]) (by kernel_rfl) (by simp) (AllReadyH.cons rfl (fun K hK => ?_) AllReadyH.nil)
  have hH := hHq1
  (go_simp; go_at_call 127; refine (H2.out _ hH.2.2.2.1).mono ?_; rintro e w6 ⟨a6, c6, rfl, hr6, hn6, hb6⟩)
  refine hK.out _ _ (by exact CpS.step hH (low_chg hb6)) (fun hHq2 => ?_)
  clear hK K hH hHq1
  (try simp only [Act.put, sTt, sZz, sSs, sGt, sGs, sGz])
  refine tkH (i := 8) (v := ?_) rfl hHq2 ?_ ?_
  rotate_left
  · (intro w hSw; first | (go_simp; done) | (go_simp; with_reducible rfl))
  (try simp only [Act.put, sTt, sZz, sSs, sGt, sGs, sGz])
  refine wpAnyH_ready (rs := [9]) (by kernel_rfl) (by simp) (AllReadyH.cons rfl (fun K hK => ?_) AllReadyH.nil)
  have hH := hHq2
  (go_simp; have hHc := hH; obtain ⟨g1, g2, g3, g4, r, g5, g6⟩ := hHc; obtain ⟨r1, r2, r3, rfl⟩ : ∃ x y z, r = [x, y, z] := by { rcases r with _ | ⟨x, _ | ⟨y, _ | ⟨z, _ | ⟨_, _⟩⟩⟩⟩ <;> simp at g5; exact ⟨_, _, _, rfl⟩ }; have q0 := g6.cell 0; have q1 := g6.cell 1; have q2 := g6.cell 2; have f0 := g6.frozen 0; have f1 := g6.frozen 1; have f2 := g6.frozen 2; simp only [List.getElem?_cons_zero, List.getElem?_cons_succ] at q0 q1 q2; go_simp)
  refine hK.out _ _ (by exact (cpS_end g1 g2 g3 g4 g6 HB1.out HB2.out k a5 n c5 a6 m c6)) (fun hHq3 => ?_)
  clear hK K hH hHq2
  (try simp only [Act.put, sTt, sZz, sSs, sGt, sGs, sGz])
  refine wpAnyH_done (by kernel_rfl) ?_ _
  have hEnd := hHq3
  have hE2 := ((g6.set 0 (.int .i64 k)).set 1 (.slice a5 n c5)).set 2 (.slice a6 m c6)
  simp only [List.set_cons_zero, List.set_cons_succ] at hE2
  have hb2s : b2 < w1.heap.size := by obtain ⟨_, _, _, _, _, _, h9⟩ := HS0.out; exact h9.lt
  have hCe : Chg [b2] w6 (((w6.setCell ⟨b2, 0, none⟩ (.int .i64 k)).setCell ⟨b2, 1, none⟩ (.slice a5 n c5)).setCell ⟨b2, 2, none⟩ (.slice a6 m c6)) :=
    (((Chg.refl [b2] w6).setCell (.inl (by simp)) _).setCell (.inl (by simp)) _).setCell (.inl (by simp)) _
  have hs1 : w1.heap.size ≤ w5.heap.size := hb5.size
  have hNC : Hid (NewC w (((w6.setCell ⟨b2, 0, none⟩ (.int .i64 k)).setCell ⟨b2, 1, none⟩ (.slice a5 n c5)).setCell ⟨b2, 2, none⟩ (.slice a6 m c6)) ⟨⟨k, d, b⟩, a5, c5, a6, c6⟩) := by
    refine Lib.hid ⟨(hr5.chg2 (low_chg hb6) (fun _ _ => by simp)).chg2 hCe (fun ad e => ?_), hr6.chg2 hCe (fun ad e => ?_), fun ad e => ?_, fun ad e => ?_⟩
    · have h9 : w1.heap.size ≤ ad.block := hn5 ad e
      simp; omega
    · have h9 : w5.heap.size ≤ ad.block := hn6 ad e
      simp; omega
    · have h9 : w1.heap.size ≤ ad.block := hn5 ad e
      have h8 := HS0.out.2.2.2.1.size
      exact Nat.le_trans h8 h9
    · have h9 : w5.heap.size ≤ ad.block := hn6 ad e
      have h8 := HS0.out.2.2.2.1.size
      show w.heap.size ≤ ad.block
      omega
  have hC6 := Lib.hid hEnd.2.2.2.1
  clear hHq3 hEnd hCe g1 g2 g3 g4 g6 f0 f1 f2 hr5 hr6 hn5 hn6 hb5 hb6 hHeld HS0
  generalize (((w6.setCell ⟨b2, 0, none⟩ (.int .i64 k)).setCell ⟨b2, 1, none⟩ (.slice a5 n c5)).setCell ⟨b2, 2, none⟩ (.slice a6 m c6)) = W7 at *
  go_wp2_with fail
  refine bodyPost_ret (results_cell_row Tryz.results70 _ _ b2 42 _ (0, 0) _ rfl hE2 Tryz.underlying42 rfl (by kernel_rfl)) rfl ?_
  exact ⟨⟨⟨k, d, b⟩, a5, c5, a6, c6⟩, by simp only [CeT.val]; rw [hn.out, hm.out], rfl, hNC, hC6.out⟩
end Go.Proofs.YtmpajlpemabniaaGreat
