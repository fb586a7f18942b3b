/-
  The document's Same of cells, by its contract. No claim of its own.
-/
import Derived.Test.YtcapphabajplcaaCeS
namespace Go.Proofs.Ytcapphabajplcaa
open Go.RowKit Go.Deep
set_option linter.unusedVariables false
set_option linter.unusedSimpArgs false

theorem bytes_beq (l l' : List UInt8) : (({ data := l.toArray } : ByteArray) == ({ data := l'.toArray } : ByteArray)) = decide (l = l') := by
  rw [beq_toListBytes, ByteArray.toList_eq, ByteArray.toList_eq]
  by_cases h : l = l'
  · subst h; simp
  · simp [h]
set_option maxHeartbeats 2000000 in
theorem rsame_any (x y : Ce) (a : Option Addr) (c : Nat) (a2 : Option Addr) (c2 : Nat) (b : Option Addr) (d : Nat) (b2 : Option Addr) (d2 B : Nat) (w : World) (hx : Ro w B a (u8s x.d)) (hx2 : Ro w B a2 (bcs x.b)) (hy : Ro w B b (u8s y.d)) (hy2 : Ro w B b2 (bcs y.b)) (hB : B ≤ w.heap.size)
    (hl : x.b.length ≤ 1000000) (hl2 : y.b.length ≤ 1000000) :
    Calls Try.prog 13 #[cev x.k a x.d.length c a2 x.b.length c2, cev y.k b y.d.length d b2 y.b.length d2] w fun e w' => e = .returned (.bool (alike x y)) ∧ Below w.heap.size w w' := by
  obtain ⟨k, l, L⟩ := x
  obtain ⟨k', l', L'⟩ := y
  simp only at hx hx2 hy hy2 hl hl2 ⊢
  obtain ⟨W, hW⟩ : ∃ W, (w.alloc (.cells #[.int .i64 k, .slice a l.length c, .slice a2 L.length c2] 26)).alloc (.cells #[.int .i64 k', .slice b l'.length d, .slice b2 L'.length d2] 26) = W := ⟨_, rfl⟩
  have hbW : Below w.heap.size w W := by rw [← hW]; exact ((Below.refl _ w).alloc (Nat.le_refl _) _).alloc (by simp) _
  have o1 : Own W w.heap.size 26 [.int .i64 k, .slice a l.length c, .slice a2 L.length c2] := by rw [← hW]; exact (Own.new w _ _).alloc _
  have o2 : Own W (w.heap.size + 1) 26 [.int .i64 k', .slice b l'.length d, .slice b2 L'.length d2] := by
    rw [← hW]
    have := Own.new (w.alloc (.cells #[.int .i64 k, .slice a l.length c, .slice a2 L.length c2] 26)) 26 [.int .i64 k', .slice b l'.length d, .slice b2 L'.length d2]
    simpa using this
  have e1 := conv_ro (c := c) (hx.below hbW hB) rfl
  have e2 := conv_ro (c := d) (hy.below hbW hB) rfl
  have HX2 := Lib.hid (hx2.below hbW hB)
  have HY2 := Lib.hid (hy2.below hbW hB)
  have HO1 := Lib.hid o1
  have HO2 := Lib.hid o2
  have HBW := Lib.hid hbW
  obtain ⟨t, HT⟩ : ∃ t, Hid (alike ⟨k, l, L⟩ ⟨k', l', L'⟩ = t) := ⟨_, Lib.hid rfl⟩
  rw [HT.out]
  have c0 := o1.cell 0
  have c1 := o1.cell 1
  have c2' := o1.cell 2
  have d0 := o2.cell 0
  have d1 := o2.cell 1
  have d2' := o2.cell 2
  simp at c0 c1 c2' d0 d1 d2'
  clear hx hx2 hy hy2 o1 o2 hbW
  have HW := Lib.hid hW
  clear hW
  obtain ⟨n, HN⟩ : ∃ n, Hid (L.length = n) := ⟨_, Lib.hid rfl⟩
  obtain ⟨m, HM⟩ : ∃ m, Hid (L'.length = m) := ⟨_, Lib.hid rfl⟩
  rw [HN.out] at hl c2' HW HO1 ⊢
  rw [HM.out] at hl2 d2' HW HO2 ⊢
  generalize hl1 : l.length = p at *
  generalize hl1' : l'.length = p' at *
  have HP1 := Lib.hid hl1
  have HP2 := Lib.hid hl1'
  clear hl1 hl1'
  by_cases hk : k = k'
  · subst hk
    by_cases hd : l = l'
    · have hs : (!(({ data := l.toArray } : ByteArray) == ({ data := l'.toArray } : ByteArray))) = false := by rw [bytes_beq]; simp [hd]
      have HD := Lib.hid hd
      clear hd
      by_cases hnm : n = m
      · subst hnm
        go_enter Try.func13, Try.ntmps13
        go_wp2_with fail
        rw [HW.out]
        go_simp
        go_wp2_with fail
        clear e1 e2 hs c0 c1 c2' d0 d1 d2'
        go_loopw [5] (fun i wr => ∃ k : Nat, i = .int .i64 k ∧ k ≤ n ∧ Hid (L.take k = L'.take k) ∧ Hid (Qt W wr)) (fun i _ => n - (intOf i).toNat)
        case atStart => exact ⟨0, rfl, Nat.zero_le _, Lib.hid rfl, Lib.hid (Qt.refl _)⟩
        case round =>
          obtain ⟨i, rfl, hi, HTK, HQ⟩ := hrel
          have c2' := (HO1.out.qt HQ.out).cell 2
          have d2' := (HO2.out.qt HQ.out).cell 2
          simp at c2' d2'
          by_cases hlt : i < n
          · have hkA : i < L.length := by rw [HN.out]; exact hlt
            have hkB : i < L'.length := by rw [HM.out]; exact hlt
            obtain ⟨g, off, rfl, hg, hcl⟩ := (HX2.out.qt HQ.out).bk (by omega)
            obtain ⟨g', off', rfl, hg', hcl'⟩ := (HY2.out.qt HQ.out).bk (by omega)
            obtain ⟨h1, h2, h3⟩ := hcl i hkA
            obtain ⟨h4, h5, h6⟩ := hcl' i hkB
            have HTS := Lib.hid (take_succ_eqB hkA hkB HTK.out)
            have HNE := Lib.hid (@ne_of_bk L L' i)
            clear hcl hcl'
            generalize bk L i = x at *
            generalize bk L' i = y at *
            have hk0 : (0 : Int) ≤ (i : Int) := by omega
            have hk1 : (i : Int) < (n : Int) := by omega
            by_cases hxy : x = y
            · subst hxy
              have hN : ∀ W, (binOp .neq 41 (bkv x) (bkv x)).run Try.prog W = .ok (.bool false) W := fun W => by rw [neq_back]; simp
              go_wp2_with fail
              go_region
              go_wp2_with fail
              go_roundw
              case rel => exact ⟨i + 1, by go_num, by omega, Lib.hid (HTS.out trivial), Lib.hid (by first | exact HQ.out | exact HQ.out.trans ⟨1, rfl⟩)⟩
              case measure => simp [intOf]; omega
            · have hN : ∀ W, (binOp .neq 41 (bkv x) (bkv y)).run Try.prog W = .ok (.bool true) W := fun W => by rw [neq_back]; simp [hxy]
              have HF := Lib.hid (HNE.out hxy)
              obtain rfl : t = false := by rw [← HT.out]; unfold alike; simp only [HF.out]; simp
              go_wp2_with fail
              go_region
              go_wp2_with fail
              go_ret
              exact ⟨rfl, Qt.below (by first | exact HQ.out | exact HQ.out.trans ⟨1, rfl⟩) HBW.out⟩
          · obtain rfl : i = n := by omega
            obtain rfl : t = true := by
              rw [← HT.out, alike_iff]
              have ht := HTK.out
              rw [List.take_of_length_le (by rw [HN.out]; omega), List.take_of_length_le (by rw [HM.out]; omega)] at ht
              exact Ce.ext' rfl HD.out ht
            go_wp2_with fail
            go_ret
            exact ⟨rfl, HQ.out.below HBW.out⟩
      · obtain rfl : t = false := by
          rw [← HT.out]; unfold alike
          have : decide (L = L') = false := by simp only [decide_eq_false_iff_not]; rintro rfl; exact hnm (HN.out.symm.trans HM.out)
          simp only [this]; simp
        have hd0 : ((n : Int) != (m : Int)) = true := by rw [bne_iff_ne]; omega
        go_enter Try.func13, Try.ntmps13
        go_wp2_with fail
        rw [HW.out]
        go_simp
        go_wp2_with fail
        go_ret
        exact ⟨rfl, HBW.out⟩
    · have hs : (!(({ data := l.toArray } : ByteArray) == ({ data := l'.toArray } : ByteArray))) = true := by rw [bytes_beq]; simp [hd]
      obtain rfl : t = false := by rw [← HT.out]; unfold alike; simp [hd]
      have hd2 : (!(l == l')) = true := by simp [hd]
      go_enter Try.func13, Try.ntmps13
      go_wp2_with fail
      rw [HW.out]
      go_simp
      go_wp2_with fail
      go_ret
      exact ⟨rfl, HBW.out⟩
  · have h1 : (k != k') = true := by rw [bne_iff_ne]; omega
    obtain rfl : t = false := by rw [← HT.out]; unfold alike; simp [hk]
    clear hk
    go_enter Try.func13, Try.ntmps13
    go_wp2_with fail
    rw [HW.out]
    go_ret
    exact ⟨rfl, HBW.out⟩
end Go.Proofs.Ytcapphabajplcaa
