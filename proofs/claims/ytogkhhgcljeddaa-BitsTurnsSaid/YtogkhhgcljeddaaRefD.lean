/-
  The document's answers on bits, by their contracts: Pack, Unpack.
-/
import Derived.Test.YtogkhhgcljeddaaRefA
import Derived.Test.YtogkhhgcljeddaaBitsD
import Derived.Test.YtogkhhgcljeddaaBitsE
import Derived.Deep.RegionHeld3
import Derived.Deep.AppendLies
import Derived.Deep.DrawnRows
namespace Go.Proofs.Ytogkhhgcljeddaa
open Go.RowKit Go.Deep
attribute [local go_sem ↓] Go.wp_at_zero Go.wp_at_succ

theorem refDigits_int (v n : Int) (w : World) (hv0 : 0 ≤ v) (hv : v < 18446744073709551616) (hn0 : 0 ≤ n) (hn : n ≤ 64) :
    Calls Try.prog 31 #[.int .u64 v, .int .i64 n] w fun e w' => ∃ a c, e = .returned (.slice a n.toNat c) ∧ Ro w' w'.heap.size a (i64s (bn (dig v.toNat n.toNat))) ∧ Below w.heap.size w w' := by
  obtain ⟨v, rfl⟩ := Int.eq_ofNat_of_zero_le hv0
  obtain ⟨n, rfl⟩ := Int.eq_ofNat_of_zero_le hn0
  refine (refDigits_any v n w (by omega) (by omega)).mono ?_
  rintro e w' ⟨x, rfl, hown, hbel⟩
  obtain ⟨a, c, hxe, hro, _, _⟩ := hown.form
  rw [show (i64s (bn (dig v n))).length = n by simp] at hxe
  exact ⟨a, c, by rw [hxe]; rfl, hro, hbel⟩

theorem refFits_yes (v n : Int) (w : World) (hv0 : 0 ≤ v) (hv1 : v < 18446744073709551616) (h0 : 0 ≤ n) (hn : n ≤ 64) (hv : v.toNat < 2 ^ n.toNat) :
    Calls Try.prog 40 #[.int .u64 v, .int .i64 n] w fun e w' => e = .returned (.bool true) ∧ w' = w := by
  obtain ⟨v, rfl⟩ := Int.eq_ofNat_of_zero_le hv0
  obtain ⟨n, rfl⟩ := Int.eq_ofNat_of_zero_le h0
  refine (refFits_any v n w (by omega) (by omega)).mono ?_
  rintro e w' ⟨rfl, rfl⟩
  exact ⟨ret_bool (decide_eq_true (by simpa using hv)), rfl⟩
theorem refFits_no (v n : Int) (w : World) (hv0 : 0 ≤ v) (hv1 : v < 18446744073709551616) (h0 : 0 ≤ n) (hn : n ≤ 64) (hv : ¬ v.toNat < 2 ^ n.toNat) :
    Calls Try.prog 40 #[.int .u64 v, .int .i64 n] w fun e w' => e = .returned (.bool false) ∧ w' = w := by
  obtain ⟨v, rfl⟩ := Int.eq_ofNat_of_zero_le hv0
  obtain ⟨n, rfl⟩ := Int.eq_ofNat_of_zero_le h0
  refine (refFits_any v n w (by omega) (by omega)).mono ?_
  rintro e w' ⟨rfl, rfl⟩
  exact ⟨ret_bool (decide_eq_false (by simpa using hv)), rfl⟩

set_option maxHeartbeats 1000000 in
theorem refPack_yes (l : List Int) (vs : List Nat) (a a2 : Option Addr) (c c2 B : Nat) (w : World) (h : Ro w B a (i64s l)) (h2 : Ro w B a2 (u64s vs)) (hB : B ≤ w.heap.size) (hl : l.length ≤ 1000) (hok : PackOk l vs) (h64 : ∀ i, vs.getD i 0 < 18446744073709551616) :
    Calls Try.prog 21 #[.slice a l.length c, .slice a2 vs.length c2] w fun e w' => ∃ x cs, e = .returned (.tuple #[x, .bool true]) ∧ IsPack l vs cs ∧ Lst w' w.heap.size 5 x (u8s cs) ∧ Below w.heap.size w w' := by
  obtain ⟨hsome, hlen, hfit⟩ := hok
  obtain ⟨t, ht⟩ := Option.isSome_iff_exists.1 hsome
  obtain ⟨hw, rfl⟩ := spanOf_some ht
  have hsum := nat_sum_le l hw
  clear ht hsome
  have HLEN := Lib.hid hlen
  rw [← hlen]
  clear hlen
  go_enter Try.func21, Try.ntmps21
  go_wp2_with fail
  go_loopw [6, 7] (fun o i wr => ∃ k : Nat, k ≤ l.length ∧ i = .int .i64 (k : Int) ∧ Lst wr w.heap.size 3 o (i64s (bn (packB ((nat l).take k) (vs.take k)))) ∧ Below w.heap.size w wr) (fun _ i _ => l.length - (intOf i).toNat)
  case atStart => exact ⟨0, by omega, by simp, Lst.nil _ _ _, Below.refl _ _⟩
  case round =>
    obtain ⟨k, hk, rfl, hown, hbel⟩ := hrel
    by_cases hlt : k < l.length
    · obtain ⟨b, off, rfl, hb, hc⟩ := h.i64 (by omega)
      obtain ⟨b2, off2, rfl, hb2, hc2⟩ := h2.u64 (by have := HLEN.out; omega)
      have hbw : b < w.heap.size := by omega
      have hbw2 : b2 < w.heap.size := by omega
      have hw1 := hc k hlt
      have hw2 := hc2 k (by have := HLEN.out; omega)
      have hcell := cell_keep hbel hw1 hbw
      have hcell2 := cell_keep hbel hw2 hbw2
      have hv := hfit k hlt
      have hn := hw k hlt
      have hv64 := h64 k
      have hstep := packB_take (nat l) vs k (by simpa using hlt) (by have := HLEN.out; omega)
      have hplen := packB_length ((nat l).take k) (vs.take k) (by have := HLEN.out; simp; omega)
      have hsl := sum_take_le (nat l) k
      rw [nat_getD] at hstep
      clear hc hc2
      generalize l.getD k 0 = n at *
      generalize vs.getD k 0 = v at *
      obtain ⟨hn0, hn1⟩ := hn
      have HST := Lib.hid hstep
      have hpl : (packB ((nat l).take k) (vs.take k)).length ≤ 64000 := by omega
      clear hstep hplen hsl
      generalize packB ((nat l).take k) (vs.take k) = pk at *
      have hv' : ((v : Nat) : Int).toNat < 2 ^ n.toNat := by simpa using hv
      go_wp2_with fail
      go_quiet ((go_at_call 40; exact Calls.quiet_of_same (refFits_yes _ _ _ (by omega) (by omega) hn0 hn1 hv')))
      go_wp2_with fail
      have hnn : n.toNat ≤ 64 := by omega
      go_region_held3 (fun w' => w'.cell? ⟨b, off + k, none⟩ = some (.int .i64 n) ∧ w'.cell? ⟨b2, off2 + k, none⟩ = some (.int .u64 (v : Int))) (go_keep)
        (first
          | (go_at_call 31; refine (refDigits_int (v : Int) n _ (by omega) (by omega) hn0 hn1).mono ?_; rintro e w3 ⟨a3, c3, rfl, hro3, hbel3⟩; have ho3 := Lst.below (by exact hown) hbel3 (Nat.le_refl _); have hb3 : Below w.heap.size w w3 := Below.trans (by exact ⟨hbel.os, hbel.tape, hbel.output, hbel.size, hbel.block⟩) (hbel3.mono hbel.size); have hk1 := cell_keep hb3 hw1 hbw; have hk2 := cell_keep hb3 hw2 hbw2)
          | (refine step_appB (by rfl) (.tmp 43) (.tmp 52) 34 (by rfl) w.heap.size 3 (.int .i64 0) 8 Try.underlying34 Try.info_i64 rfl _ (i64s (bn pk)) (by rfl) ho3 a3 _ n.toNat c3 (i64s (bn (dig v n.toNat))) (by rfl) (by simp) hro3 (i64s_oneCell _) (by simp; omega) (by simp; omega) w.heap.size w hb3 (Nat.le_refl _) hb3.size ?_; intro v4 w4 hown4 hbel4 hsz4; have hk3 := cell_keep hbel4 hw1 hbw; have hk4 := cell_keep hbel4 hw2 hbw2))
      go_wp2_with fail
      go_roundw
      case rel =>
        refine ⟨k + 1, by omega, by go_num, ?_, hbel4⟩
        have e : i64s (bn (packB ((nat l).take (k + 1)) (vs.take (k + 1)))) = i64s (bn pk) ++ i64s (bn (dig v n.toNat)) := by rw [HST.out]; simp [i64s, bn]
        rw [e]
        simpa using hown4.out
      case measure => simp [intOf]; omega
    · have e1 : (nat l).take k = nat l := List.take_of_length_le (by simp; omega)
      have e2 : vs.take k = vs := List.take_of_length_le (by have := HLEN.out; omega)
      rw [e1, e2] at hown
      have hplen := packB_length (nat l) vs (by have := HLEN.out; simp; omega)
      obtain ⟨a1, c1, hoe, hro, _, _⟩ := hown.form
      rw [show (i64s (bn (packB (nat l) vs))).length = (nat l).sum by rw [i64s_length, bn_length, hplen]] at hoe
      subst hoe
      have HP := Lib.hid hplen
      clear hplen e1 e2
      have hby := refBytes_len (packB (nat l) vs) (nat l).sum a1 c1 wr.heap.size wr HP.out hro (Nat.le_refl _) (by omega)
      generalize (nat l).sum = S at *
      go_wp2_with fail
      refine hby.mono ?_
      rintro e w7 ⟨x, cs, rfl, hcs, hown7, hbel7⟩
      go_wp2_with fail
      go_ret2
      exact ⟨x, cs, rfl, isPack_of_bytes HLEN.out hcs, hown7.base hbel.size, hbel.trans (hbel7.mono hbel.size)⟩

set_option maxHeartbeats 1000000 in
theorem refPack_no (l : List Int) (vs : List Nat) (a a2 : Option Addr) (c c2 B : Nat) (w : World) (h : Ro w B a (i64s l)) (h2 : Ro w B a2 (u64s vs)) (hB : B ≤ w.heap.size) (hl : l.length ≤ 1000) (hno : ¬ PackOk l vs) (h64 : ∀ i, vs.getD i 0 < 18446744073709551616) :
    Calls Try.prog 21 #[.slice a l.length c, .slice a2 vs.length c2] w fun e w' => e = .returned (.tuple #[.slice none 0 0, .bool false]) ∧ Below w.heap.size w w' := by
  by_cases hlen : l.length = vs.length
  · have HLEN := Lib.hid hlen
    rw [← hlen]
    have hno2 : ¬ ∀ i, i < l.length → (0 ≤ l.getD i 0 ∧ l.getD i 0 ≤ 64) ∧ vs.getD i 0 < 2 ^ (l.getD i 0).toNat := fun hh =>
      hno ⟨by rw [spanOf_ok l fun i hi => (hh i hi).1]; rfl, hlen, fun i hi => (hh i hi).2⟩
    clear hlen hno
    go_enter Try.func21, Try.ntmps21
    go_wp2_with fail
    go_loopw [6, 7] (fun o i wr => ∃ k : Nat, k ≤ l.length ∧ i = .int .i64 (k : Int) ∧ Lst wr w.heap.size 3 o (i64s (bn (packB ((nat l).take k) (vs.take k)))) ∧ Below w.heap.size w wr ∧ ∀ i, i < k → (0 ≤ l.getD i 0 ∧ l.getD i 0 ≤ 64) ∧ vs.getD i 0 < 2 ^ (l.getD i 0).toNat) (fun _ i _ => l.length - (intOf i).toNat)
    case atStart => exact ⟨0, by omega, by simp, Lst.nil _ _ _, Below.refl _ _, by omega⟩
    case round =>
      obtain ⟨k, hk, rfl, hown, hbel, hall⟩ := hrel
      by_cases hlt : k < l.length
      · obtain ⟨b, off, rfl, hb, hc⟩ := h.i64 (by omega)
        obtain ⟨b2, off2, rfl, hb2, hc2⟩ := h2.u64 (by have := HLEN.out; omega)
        have hbw : b < w.heap.size := by omega
        have hbw2 : b2 < w.heap.size := by omega
        have hw1 := hc k hlt
        have hw2 := hc2 k (by have := HLEN.out; omega)
        have hcell := cell_keep hbel hw1 hbw
        have hcell2 := cell_keep hbel hw2 hbw2
        have hv64 := h64 k
        have hnext : (0 ≤ l.getD k 0 ∧ l.getD k 0 ≤ 64) ∧ vs.getD k 0 < 2 ^ (l.getD k 0).toNat → ∀ i, i < k + 1 → (0 ≤ l.getD i 0 ∧ l.getD i 0 ≤ 64) ∧ vs.getD i 0 < 2 ^ (l.getD i 0).toNat := fun hx i hi => by
          by_cases e : i = k
          · rw [e]; exact hx
          · exact hall i (by omega)
        have hstep := packB_take (nat l) vs k (by simpa using hlt) (by have := HLEN.out; omega)
        have hplen := packB_length ((nat l).take k) (vs.take k) (by have := HLEN.out; simp; omega)
        have hsl : ((nat l).take k).sum ≤ 64 * k := by
          have := nat_sum_le (l.take k) (fun i hi => by
            rw [List.length_take] at hi
            have e : (l.take k).getD i 0 = l.getD i 0 := by simp only [List.getD, List.getElem?_take]; rw [if_pos (by omega)]
            rw [e]; exact (hall i (by omega)).1)
          rw [List.length_take] at this
          have e : nat (l.take k) = (nat l).take k := by simp [nat]
          rw [e] at this
          omega
        rw [nat_getD] at hstep
        have HN := Lib.hid hnext
        have HNO := Lib.hid hno2
        clear hc hc2 hnext hall hno2 h64
        generalize l.getD k 0 = n at *
        generalize vs.getD k 0 = v at *
        have HST := Lib.hid hstep
        have hpl : (packB ((nat l).take k) (vs.take k)).length ≤ 64000 := by omega
        clear hstep hplen hsl
        generalize packB ((nat l).take k) (vs.take k) = pk at *
        by_cases hn0 : 0 ≤ n
        · by_cases hn1 : n ≤ 64
          · by_cases hv : v < 2 ^ n.toNat
            · have hv' : ((v : Nat) : Int).toNat < 2 ^ n.toNat := by simpa using hv
              have HV := Lib.hid (HN.out ⟨⟨hn0, hn1⟩, hv⟩)
              go_wp2_with fail
              go_quiet ((go_at_call 40; exact Calls.quiet_of_same (refFits_yes _ _ _ (by omega) (by omega) hn0 hn1 hv')))
              go_wp2_with fail
              have hnn : n.toNat ≤ 64 := by omega
              go_region_held3 (fun w' => w'.cell? ⟨b, off + k, none⟩ = some (.int .i64 n) ∧ w'.cell? ⟨b2, off2 + k, none⟩ = some (.int .u64 (v : Int))) (go_keep)
                (first
                  | (go_at_call 31; refine (refDigits_int (v : Int) n _ (by omega) (by omega) hn0 hn1).mono ?_; rintro e w3 ⟨a3, c3, rfl, hro3, hbel3⟩; have ho3 := Lst.below (by exact hown) hbel3 (Nat.le_refl _); have hb3 : Below w.heap.size w w3 := Below.trans (by exact ⟨hbel.os, hbel.tape, hbel.output, hbel.size, hbel.block⟩) (hbel3.mono hbel.size); have hk1 := cell_keep hb3 hw1 hbw; have hk2 := cell_keep hb3 hw2 hbw2)
                  | (refine step_appB (by rfl) (.tmp 43) (.tmp 52) 34 (by rfl) w.heap.size 3 (.int .i64 0) 8 Try.underlying34 Try.info_i64 rfl _ (i64s (bn pk)) (by rfl) ho3 a3 _ n.toNat c3 (i64s (bn (dig v n.toNat))) (by rfl) (by simp) hro3 (i64s_oneCell _) (by simp; omega) (by simp; omega) w.heap.size w hb3 (Nat.le_refl _) hb3.size ?_; intro v4 w4 hown4 hbel4 hsz4; have hk3 := cell_keep hbel4 hw1 hbw; have hk4 := cell_keep hbel4 hw2 hbw2))
              go_wp2_with fail
              go_roundw
              case rel =>
                refine ⟨k + 1, by omega, by go_num, ?_, hbel4, HV.out⟩
                have e : i64s (bn (packB ((nat l).take (k + 1)) (vs.take (k + 1)))) = i64s (bn pk) ++ i64s (bn (dig v n.toNat)) := by rw [HST.out]; simp [i64s, bn]
                rw [e]
                simpa using hown4.out
              case measure => simp [intOf]; omega
            · have hv' : ¬ ((v : Nat) : Int).toNat < 2 ^ n.toNat := by simpa using hv
              go_wp2_with fail
              go_quiet ((go_at_call 40; exact Calls.quiet_of_same (refFits_no _ _ _ (by omega) (by omega) hn0 hn1 hv')))
              go_wp2_with fail
              go_ret2
              exact ⟨rfl, (Qt.drewN wr _).below hbel⟩
          · go_wp2_with fail
            go_ret2
            exact ⟨rfl, hbel⟩
        · go_wp2_with fail
          go_ret2
          exact ⟨rfl, hbel⟩
      · exact absurd (fun i hi => hall i (by omega)) hno2
  · have hne : ((l.length : Int) != (vs.length : Int)) = true := by rw [bne_iff_ne]; omega
    go_enter Try.func21, Try.ntmps21
    go_wp2_with fail
    go_ret2
    exact ⟨rfl, Below.refl _ _⟩
end Go.Proofs.Ytogkhhgcljeddaa
