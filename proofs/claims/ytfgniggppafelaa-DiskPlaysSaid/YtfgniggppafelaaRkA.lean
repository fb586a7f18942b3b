/-
  Contract of the statement's question: do the two disks tell the same? No claim of its own.
-/
import Derived.Test.YtfgniggppafelaaRkX
import Derived.BigQuiet
namespace Go.Proofs.Ytfgniggppafelaa
open Go.RowKit Go.Maps Go.Shelf
set_option linter.unusedVariables false
set_option linter.unusedSimpArgs false

/-- two sectors of two types that are one -/
theorem same40 (S : Sec) (hS : S.length = 64) (w : World) : (Op.equalIn 10000 40 (.agg (u8s S).toArray) (.agg (u8s S).toArray)).run Try.prog w = .ok true w := by
  have h := run_equal_sec w 9998 40 5 Try.underlying40 Try.underlying5 (Try.sizeOf5 w) S S hS hS
  simpa using h
/-- the list of a disk's dirty sectors, opened -/
def IsDl (w : World) (a : Option Addr) (n : Nat) (m : Nat → Option Sec) : Prop := 0 < (dirtyL n m).length → ∃ g, a = some ⟨g, 0, none⟩ ∧ g < w.heap.size ∧ ∀ j, j < (dirtyL n m).length → w.cell? ⟨g, j, none⟩ = some (.int .i64 (((dirtyL n m).getD j 0 : Nat) : Int))
theorem IsDl.keep {w w' : World} {a : Option Addr} {n : Nat} {m : Nat → Option Sec} (h : IsDl w a n m) (hc : Chg [] w w') : IsDl w' a n m := fun hp => by
  obtain ⟨g, h1, h2, h3⟩ := h hp
  exact ⟨g, h1, Nat.lt_of_lt_of_le h2 hc.size, fun j hj => hc.cell (h3 j hj) (by simp)⟩
theorem dirty_dl (w : World) {p g b n : Nat} {F : Nat → Sec} {m : Nat → Option Sec} (hd : Dsk w p g b n F m) :
    Calls Try.prog 22 #[.pointer (some ⟨p, 0, none⟩)] w fun e w' => ∃ a c, e = .returned (.slice a (dirtyL n m).length c) ∧ Hid (IsDl w' a n m) ∧ Chg [] w w' := by
  refine (dirty_ok w hd).mono fun e w' ⟨v, he, hrow, hb⟩ => ?_
  obtain ⟨a, c, rfl, ha⟩ := open_row1 hrow
  refine ⟨a, c, he, Lib.hid fun hL => ?_, (Chg.refl [] w).of_below hb⟩
  obtain ⟨gd, rfl, h1, h2, h3⟩ := ha hL
  exact ⟨gd, rfl, h2, fun j hj => by rw [h3 j hj, i64s_dirty n m j hj]⟩
theorem rdirty_dl (w : World) {q gn go gd n : Nat} {N O : Nat → Sec} {m : Nat → Option Sec} (hd : Rdk w q gn go gd n N O (fun i => (m i).isSome)) :
    Calls Try.prog 27 #[.pointer (some ⟨q, 0, none⟩)] w fun e w' => ∃ a c, e = .returned (.slice a (dirtyL n m).length c) ∧ Hid (IsDl w' a n m) ∧ Chg [] w w' := by
  refine (rdirty_ok w hd).mono fun e w' ⟨v, he, hrow, hb⟩ => ?_
  have hl : (i64s (dirtyZ n m)).length = (dirtyL n m).length := by simp [dirtyZ]
  have hrow' : w'.ownsRow w.heap.size 3 1 v (dirtyL n m).length (i64s (dirtyZ n m)) := by rw [← hl]; exact hrow.out
  obtain ⟨a, c, rfl, ha⟩ := open_row1 hrow'
  refine ⟨a, c, he, Lib.hid fun hL => ?_, hb⟩
  obtain ⟨gd, rfl, h1, h2, h3⟩ := ha hL
  exact ⟨gd, rfl, h2, fun j hj => by rw [h3 j hj, i64s_dirty n m j hj]⟩
set_option maxHeartbeats 1000000 in
set_option maxRecDepth 100000 in
theorem alike_ok (w : World) {p g b n q gn go gd : Nat} {F : Nat → Sec} {m : Nat → Option Sec} (hd : Dsk w p g b n F m) (hr : Rdk w q gn go gd n (now F m) F (fun i => (m i).isSome)) :
    Calls Try.prog 18 #[.pointer (some ⟨p, 0, none⟩), .pointer (some ⟨q, 0, none⟩)] w fun e w' => e = .returned (.bool true) ∧ Chg [] w w' := by
  have H1 := Lib.hid (dirty_dl w hd)
  have HD := Lib.hid hd
  have HR := Lib.hid hr
  have htop := hd.top
  have hle := dirtyL_le n m
  clear hd hr
  go_enter Try.func18, Try.ntmps18
  go_wp2_with (first
    | (go_at_call 22; refine H1.out.mono ?_; rintro e w1 ⟨a1, c1, rfl, hl1, hc1⟩)
    | fail)
  have H2 := Lib.hid (rdirty_dl w1 (HR.out.kept hc1))
  go_wp2_with (first
    | (go_at_call 27; refine H2.out.mono ?_; rintro e w2 ⟨a2, c2, rfl, hl2, hc2⟩)
    | fail)
  have hc02 := hc1.trans hc2
  have hd2 := HD.out.kept hc02
  have hr2 := HR.out.kept hc02
  have HL1 := Lib.hid (hl1.out.keep hc2)
  have HL2 := hl2
  have hq0 := hr2.c0
  have HLen := Lib.hid (len_ok w2.drew (hd2.kept ((Chg.refl [] w2).drew)))
  obtain ⟨L, HL⟩ : ∃ L, Hid ((dirtyL n m).length = L) := ⟨_, Lib.hid rfl⟩
  simp only [HL.out]
  rw [HL.out] at hle
  have HD2 := Lib.hid hd2
  have HR2 := Lib.hid hr2
  clear hd2 hr2 hl1 hl2 H1 H2
  go_wp2_with fail
  go_region_held3 (fun w' => w'.cell? ⟨q, 0, none⟩ = some (.slice (some ⟨gn, 0, none⟩) n n)) (first | assumption | exact hq0) (first | (go_at_call 23; refine HLen.out.mono ?_; rintro e w' ⟨rfl, rfl⟩))
  go_wp2_with fail
  go_loopw [7] (fun i wr => ∃ k : Nat, k ≤ L ∧ i = .int .i64 k ∧ Chg [] w2 wr) (fun i _ => L - (intOf i).toNat)
  case atStart => exact ⟨0, Nat.zero_le _, rfl, (Chg.refl [] w2).drew⟩
  case round =>
    obtain ⟨k, hk, rfl, hc⟩ := hrel
    by_cases hlt : k < L
    · have hdt : decide (k < L) = true := by simpa using hlt
      obtain ⟨g1, rfl, hg1, hx1⟩ := HL1.out (by rw [HL.out]; omega)
      obtain ⟨g2, rfl, hg2, hx2⟩ := HL2.out (by rw [HL.out]; omega)
      have hy1 := hc.cell (hx1 k (by rw [HL.out]; exact hlt)) (by simp)
      have hy2 := hc.cell (hx2 k (by rw [HL.out]; exact hlt)) (by simp)
      have hk0 : (0 : Int) ≤ (k : Int) := by omega
      have hk1 : (k : Int) < (L : Int) := by omega
      obtain ⟨x, HX⟩ : ∃ x : Nat, Hid ((dirtyL n m).getD k 0 = x) := ⟨_, Lib.hid rfl⟩
      rw [HX.out] at hy1 hy2
      have hmeas : L - (k + 1) < L - k := by omega
      clear hx1 hx2
      go_wp2_with fail
      go_quiet (fail)
      go_wp2
      go_roundw
      case rel => exact ⟨k + 1, by omega, by go_num, hc.drewN nq⟩
      case measure => simp [intOf]; omega
    · have hdt : decide (k < L) = false := by simpa using hlt
      have HC3 := Lib.hid hc
      rename World => w3
      clear hc
      go_wp2_with fail
      go_loopw [8] (fun i wr => ∃ k : Nat, k ≤ n ∧ i = .int .i64 k ∧ Chg [] w2 wr) (fun i _ => n - (intOf i).toNat)
      case atStart => exact ⟨0, Nat.zero_le _, rfl, HC3.out⟩
      case round =>
        obtain ⟨k2, hk2, rfl, hc⟩ := hrel
        have hr3 := HR2.out.kept hc
        have hq1 := hr3.c0
        by_cases hlt2 : k2 < n
        · have hdt2 : decide (k2 < n) = true := by simpa using hlt2
          have hj0 : (0 : Int) ≤ (k2 : Int) := by omega
          have hj1 : (k2 : Int) < (n : Int) := by omega
          obtain ⟨S, HS⟩ : ∃ S, Hid (now F m k2 = S) := ⟨_, Lib.hid rfl⟩
          have HRd := Lib.hid (read_at HD2.out hlt2 HS.out)
          have hrow := hr3.rn.rng k2 hlt2
          have hSl := hr3.lenN k2
          rw [HS.out] at hrow hSl
          have hsame := same40 S hSl
          have hmeas : n - (k2 + 1) < n - k2 := by omega
          clear hr3
          go_wp2_with (first
            | (go_at_call 20; (with_reducible refine (HRd.out _ hc).mono ?_); rintro e wa ⟨rfl, hca⟩)
            | (refine wpList_alloc37 rfl rfl ?_)
            | (refine wpList_laid rfl _ _ rfl S rfl rfl rfl hSl ?_; intro wb hrb hcb)
            | fail)
          have hcab := hca.trans hcb
          have hrowb := hcab.range hrow (by simp)
          have hqb := hcab.cell hq1 (by simp)
          have hcF := hc.trans hcab
          clear hrow hq1 hca hcb hcab
          refine wp_region_quiet_lit (by kernel_rfl) (by kernel_rfl) ?_
          repeat (first
            | go_big_quiet_skip
            | ((first
                | refine wpQuiet_load37 _ rfl _ _ rfl S hrb hSl rfl ?_
                | refine wpQuiet_load40 _ rfl _ _ rfl S hrowb hSl rfl ?_); simp only [Act.put, List.setIfInBounds_toArray, List.set_cons_zero, List.set_cons_succ])
            | go_big_quiet_step (fail))
          refine wpQuiet_nil ?_
          intro _ hw'
          obtain ⟨nq, hw''⟩ := hw'
          subst hw''
          go_wp2
          go_roundw
          case rel => exact ⟨k2 + 1, by omega, by go_num, hcF.drewN nq⟩
          case measure => simp [intOf]; omega
        · have hdt2 : decide (k2 < n) = false := by simpa using hlt2
          clear hr3
          go_wp2
          go_ret
          exact ⟨rfl, hc02.trans hc⟩
end Go.Proofs.Ytfgniggppafelaa
