/-
  The document's answers on bits, by their contracts: Unpack.
-/
import Derived.Test.YtogkhhgcljeddaaRefD
namespace Go.Proofs.Ytogkhhgcljeddaa
open Go.RowKit Go.Deep

theorem conv_ro {w : World} {B len c : Nat} {a : Option Addr} {bs : List UInt8} (h : Ro w B a (u8s bs)) (hl : bs.length = len) :
    (convert 22 9 (.slice a len c)).run Try.prog w = .ok (.string ⟨bs.toArray⟩) w := by
  subst hl
  by_cases h0 : 0 < bs.length
  · obtain ⟨b, off, rfl, hb, hc⟩ := h.u8 h0
    exact run_convert_bytes_back w _ _ _ _ _ bs Try.underlying22 Try.underlying5 Try.underlying9 fun j hj => by
      rw [add_off, hc j hj]
      simp [List.getD, hj]
  · have e : bs = [] := List.eq_nil_of_length_eq_zero (by omega)
    subst e
    rw [run_convert_bytes_string w _ _ _ a _ c Try.underlying22 Try.underlying5 Try.underlying9]
    cases a <;> simp [Conv.bytesToString, loadCells]
    all_goals rfl

theorem Try.info_u64' : (Try.prog.info? 24).map (fun i => (i.zero, i.size, i.bytes)) = some (some (.int .u64 0), 1, 8) := by kernel_rfl
theorem row_part (bs : List UInt8) (s n : Nat) (h : s + n ≤ 8 * bs.length) : ((rowB bs).drop s).take n = (List.range n).map fun j => bitB bs (s + j) := by
  have e := rowB_take_add bs s n h
  have h2 : ((rowB bs).take (s + n)).drop s = ((rowB bs).drop s).take n := by rw [List.drop_take]; congr 1; omega
  rw [← h2, e, List.drop_append_of_le_length (by rw [List.length_take, rowB_length]; omega)]
  rw [List.drop_of_length_le (by rw [List.length_take]; omega)]
  rfl
theorem nm_part (bs : List UInt8) (s n : Nat) : nm (fun j => ((List.range n).map fun j => bitB bs (s + j)).getD j false) n = num bs s n := by
  rw [num_nm]
  apply nm_congr
  intro i hi
  simp [List.getD, hi]

set_option maxHeartbeats 2000000 in
theorem refUnpack_any (l : List Int) (bs : List UInt8) (a a2 : Option Addr) (c c2 B : Nat) (w : World) (h : Ro w B a (i64s l)) (h2 : Ro w B a2 (u8s bs)) (hB : B ≤ w.heap.size) (hl : l.length ≤ 1000) (hbl : bs.length ≤ 1000) :
    Calls Try.prog 23 #[.slice a l.length c, .slice a2 bs.length c2] w fun e w' => ((UnpOk l bs ∧ ∃ x vs, e = .returned (.tuple #[x, .bool true]) ∧ IsUnp l bs vs ∧ Lst w' w.heap.size 24 x (u64s vs)) ∨ (¬ UnpOk l bs ∧ e = .returned (.tuple #[.slice none 0 0, .bool false]))) ∧ Below w.heap.size w w' := by
  go_enter Try.func23, Try.ntmps23
  go_wp2_with fail
  refine (refRow_any bs a2 c2 B w h2 hB (by omega)).mono ?_
  rintro e w1 ⟨rv, rfl, hown, hbel⟩
  obtain ⟨a1, c1, hve, hro, hc1, _⟩ := hown.form
  rw [show (i64s (bn (rowB bs))).length = 8 * bs.length by simp] at hve hc1
  subst hve
  have h' := h.below hbel hB
  have hB' : B ≤ w1.heap.size := by have := hbel.size; omega
  have HBEL := Lib.hid hbel
  clear hown hbel
  go_wp2_with fail
  go_loopw [7, 8, 9] (fun o x i wr => ∃ k : Nat, k ≤ l.length ∧ i = .int .i64 (k : Int) ∧ x = .int .i64 (((nat l).take k).sum : Nat) ∧ Lst wr w1.heap.size 24 o (u64s (unpL l bs k)) ∧ Below w1.heap.size w1 wr ∧ (∀ i, i < k → 0 ≤ l.getD i 0 ∧ l.getD i 0 ≤ 64) ∧ ((nat l).take k).sum ≤ 8 * bs.length) (fun _ _ i _ => l.length - (intOf i).toNat)
  case atStart => exact ⟨0, by omega, by simp, by simp, Lst.nil _ _ _, Below.refl _ _, by omega, by simp⟩
  case round =>
    obtain ⟨k, hk, rfl, rfl, hown, hbel, hall, hle⟩ := hrel
    by_cases hlt : k < l.length
    · obtain ⟨b, off, rfl, hb, hc⟩ := (h'.below hbel hB').i64 (by omega)
      have hcell := hc k hlt
      have hc1w := Lib.hid (show w1.cell? ⟨b, off + k, none⟩ = some (.int .i64 (l.getD k 0)) from by
        obtain ⟨b', off', he, hb', hc'⟩ := h'.i64 (by omega)
        injection he with he
        injection he with he1 he2 _
        subst he1; subst he2
        exact hc' k hlt)
      have hst := sum_take_nat (nat l) k (by simpa using hlt)
      rw [nat_getD] at hst
      have hsu := unpL_succ l bs k
      have hnext : (0 ≤ l.getD k 0 ∧ l.getD k 0 ≤ 64) → ∀ i, i < k + 1 → 0 ≤ l.getD i 0 ∧ l.getD i 0 ≤ 64 := fun hx i hi => by
        by_cases e : i = k
        · rw [e]; exact hx
        · exact hall i (by omega)
      have hnot : (∀ i, i < l.length → 0 ≤ l.getD i 0 ∧ l.getD i 0 ≤ 64) ∧ ((nat l).take (k + 1)).sum ≤ 8 * bs.length ∨ ¬ UnpOk l bs := by
        rcases Classical.em (UnpOk l bs) with hu | hu
        · left
          obtain ⟨t, ht⟩ := Option.isSome_iff_exists.1 hu.1
          refine ⟨(spanOf_some ht).1, ?_⟩
          have := sum_take_le (nat l) (k + 1)
          have := hu.2.1
          omega
        · exact .inr hu
      rw [hst] at hnot
      have hnot2 : (0 ≤ l.getD k 0 ∧ l.getD k 0 ≤ 64 ∧ ((nat l).take k).sum + (l.getD k 0).toNat ≤ 8 * bs.length) ∨ ¬ UnpOk l bs := hnot.imp (fun hx => ⟨(hx.1 k hlt).1, (hx.1 k hlt).2, hx.2⟩) id
      clear hc hall hnot
      generalize l.getD k 0 = n at *
      generalize ((nat l).take k).sum = s at *
      have HST := Lib.hid hst
      have HSU := Lib.hid hsu
      have HN := Lib.hid hnext
      have HNO := Lib.hid hnot2
      have hul : (unpL l bs k).length = k := by simp
      generalize unpL l bs k = ul at *
      have HUL := Lib.hid hul
      clear hst hsu hnext hnot2 hul
      by_cases hn0 : 0 ≤ n
      · by_cases hn1 : n ≤ 64
        · by_cases hfit : n ≤ 8 * (bs.length : Int) - (s : Int)
          · obtain ⟨m, rfl⟩ := Int.eq_ofNat_of_zero_le hn0
            have hpart := row_part bs s m (by omega)
            have hd : Ro wr w1.heap.size (if c1 = s then a1 else a1.map fun x => x.add s) (i64s (bn (((rowB bs).drop s).take m))) := by
              have := ((hro.below hbel (Nat.le_refl _)).drop s c1 (by simp; omega)).take m
              rwa [i64s, ← List.map_drop, ← List.map_take, bn, ← List.map_drop, ← List.map_take] at this
            rw [hpart] at hd
            have hnum : ∀ A C, Ro wr w1.heap.size A (i64s (bn ((List.range m).map fun j => bitB bs (s + j)))) → Calls Try.prog 41 #[.slice A m C] wr fun e w' => e = .returned (.int .u64 (num bs s m : Nat)) ∧ wr = w' := fun A C hA => by
              have := refNumber_len _ m A C w1.heap.size wr (by simp) hA (by omega)
              rw [nm_part] at this
              exact this
            have HD := Lib.hid hd
            have HNUM := Lib.hid hnum
            rw [Int.toNat_natCast] at HST HNO HSU
            clear hpart hd hnum
            rcases Decidable.em (c1 = s) with rfl | hcs
            all_goals
              go_wp2_with fail
              refine (HNUM.out _ _ (by have hd := HD.out; first | (simpa using hd) | (simpa [hcs] using hd))).mono ?_
              rintro e w' ⟨rfl, rfl⟩
              go_wp2_with (at_builtin; refine wpList_app1 rfl (.tmp 43) (.tmp 54) 35 rfl w1.heap.size 24 (.int .u64 0) 8 Try.underlying35 Try.info_u64' rfl (.int .u64 (num bs _ m : Nat)) rfl _ (u64s ul) rfl hown rfl (by have := HUL.out; simp; omega) (by have := HUL.out; simp; omega) w1.heap.size w1 hbel (Nat.le_refl _) hbel.size ?_; intro v5 w5 hown5 hbel5 hsz5; have hcell5 := cell_keep hbel5 ((hc1w).out) (by omega))
              go_roundw
              case rel =>
                refine ⟨k + 1, by omega, by go_num, by rw [HST.out]; go_num, ?_, hbel5, HN.out ⟨hn0, hn1⟩, by rw [HST.out]; omega⟩
                rw [HSU.out, u64s, List.map_append]
                exact hown5.out
              case measure => simp [intOf]; omega
          · have hno : ¬ UnpOk l bs := HNO.out.resolve_left (by omega)
            have HNOK := Lib.hid hno
            clear hno
            go_wp2_with fail
            go_ret2
            exact ⟨.inr ⟨HNOK.out, rfl⟩, HBEL.out.trans (hbel.mono HBEL.out.size)⟩
        · have hno : ¬ UnpOk l bs := HNO.out.resolve_left (by omega)
          have HNOK := Lib.hid hno
          clear hno
          go_wp2_with fail
          go_ret2
          exact ⟨.inr ⟨HNOK.out, rfl⟩, HBEL.out.trans (hbel.mono HBEL.out.size)⟩
      · have hno : ¬ UnpOk l bs := HNO.out.resolve_left (by omega)
        have HNOK := Lib.hid hno
        clear hno
        go_wp2_with fail
        go_ret2
        exact ⟨.inr ⟨HNOK.out, rfl⟩, HBEL.out.trans (hbel.mono HBEL.out.size)⟩
    · have hkl : k = l.length := by omega
      have hsome : (spanOf l).isSome := by rw [spanOf_ok l fun i hi => hall i (by omega)]; rfl
      have hunp : IsUnp l bs (unpL l bs l.length) := unpL_is l bs
      have h64 := fun i => unpL_lt l bs l.length i (fun i hi => hall i (by omega))
      have hown' := hown
      rw [hkl] at hown'
      obtain ⟨ao, co, hoe, hroo, _, _⟩ := hown'.form
      rw [show (u64s (unpL l bs l.length)).length = l.length by simp] at hoe
      have hpk := packOk_unp hsome hunp
      have HU := Lib.hid hunp
      have HSM := Lib.hid hsome
      have HK := Lib.hid hkl
      have hpack := refPack_yes l (unpL l bs l.length) a ao c co wr.heap.size wr ((h'.below hbel hB').mono (by have := hbel.size; omega)) hroo (Nat.le_refl _) hl hpk h64
      rw [show (unpL l bs l.length).length = l.length by simp] at hpack
      have hun : ∀ cs, IsPack l (unpL l bs l.length) cs → (UnpOk l bs ↔ cs = bs) := fun cs hcs =>
        ⟨fun hu => hcs.unique (isPack_self hu hunp), fun he => unpOk_of hsome (by simp) (he ▸ hcs)⟩
      have hro2 := (h2.below HBEL.out hB).below hbel hB'
      have HUN := Lib.hid hun
      have HPACK := Lib.hid hpack
      have HO := Lib.hid hown'
      subst hoe
      clear hkl hall hpk h64 hunp hsome hpack hun hown' hown
      go_wp2_with fail
      refine HPACK.out.mono ?_
      rintro e w7 ⟨x, cs, rfl, hcs, hown7, hbel7⟩
      obtain ⟨a8, c8, hxe, hro8, _, _⟩ := hown7.form
      rw [show (u8s cs).length = cs.length by simp] at hxe
      subst hxe
      have hcv1 := conv_ro (c := c8) hro8 rfl
      have hcv2 := conv_ro (c := c2) (hro2.below hbel7 (by have := hbel.size; omega)) rfl
      have HIFF := Lib.hid (HUN.out cs hcs)
      have hbelA : Below w.heap.size w w7 := (HBEL.out.trans (hbel.mono HBEL.out.size)).trans (hbel7.mono (by have := hbel.size; have := HBEL.out.size; omega))
      by_cases hEq : cs = bs
      · have HEQ := Lib.hid hEq
        have hoB := (HO.out.below hbel7 (Nat.le_refl _)).base HBEL.out.size
        have hb1 : (!(cs == bs)) = false := by simp [hEq]
        clear hEq
        go_wp2_with fail
        go_ret2
        exact ⟨.inl ⟨HIFF.out.2 HEQ.out, _, _, rfl, HU.out, hoB⟩, hbelA⟩
      · have HNE := Lib.hid hEq
        have hb1 : (!(cs == bs)) = true := by simp [hEq]
        go_wp2_with fail
        go_ret2
        exact ⟨.inr ⟨fun hu => HNE.out (HIFF.out.1 hu), rfl⟩, hbelA⟩
end Go.Proofs.Ytogkhhgcljeddaa
