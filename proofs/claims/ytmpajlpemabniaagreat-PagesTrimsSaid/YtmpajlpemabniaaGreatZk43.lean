/-
  The statement PagesTrims, walked: what is trimmed, what is written, and where. No condition but the ranges of the arguments.
-/
import Derived.IntWalk
import Derived.Test.YtmpajlpemabniaaGreatZk40
namespace Go.Proofs.YtmpajlpemabniaaGreat
open Go.RowKit Go.Maps Go.Shelf Go.Deep
set_option linter.unusedVariables false
set_option linter.unusedSimpArgs false

theorem mem_take_el {L : List Rn} {k : Nat} (h : k < L.length) (x : Nat) : mem (L.take (k + 1)) x = (mem (L.take k) x || inR (el L k) x) := by
  rw [take_el h, mem_append]
  simp [mem]
theorem Own.one {w : World} {g : Nat} {t : TypeId} {a : Value} (h : Own w g t [a]) : w.cell? ⟨g, 0, none⟩ = some a := by rw [h.cell]; rfl
set_option maxHeartbeats 4000000 in
set_option maxRecDepth 100000 in
theorem pagesTrims_walk (w : World) (z : Int) (a : Option Addr) (len c : Nat) (Z : Nat → ActT8) (x : Nat) (hz : -9223372036854775808 ≤ z ∧ z ≤ 9223372036854775807) (hZ : IsActs8 w a len Z) (hx : x < 18446744073709551616) :
    Calls Tryz.prog 8 #[.int .i64 z, .slice a len c, .int .u64 (x : Int)] w fun e w' => e = .returned (.bool true) ∧ Chg [] w w' := by
  by_cases z3 : z < 3
  · have d1 : decide (z < 3) = true := by simpa using z3
    clear hz hZ z3
    go_enter Tryz.func8, Tryz.ntmps8
    go_wp2_with (first | (go_at_call 9; refine (alive8_any _).mono ?_; rintro e w2 ⟨rfl, hc2⟩) | fail)
    go_ret
    exact ⟨rfl, hc2⟩
  have d1 : decide (z < 3) = false := by simpa using z3
  by_cases z200 : 200 < z
  · have d2 : decide (200 < z) = true := by simpa using z200
    clear hz hZ z3 z200
    go_enter Tryz.func8, Tryz.ntmps8
    go_wp2_with (first | (go_at_call 9; refine (alive8_any _).mono ?_; rintro e w2 ⟨rfl, hc2⟩) | fail)
    go_ret
    exact ⟨rfl, hc2⟩
  have d2 : decide (200 < z) = false := by simpa using z200
  by_cases x20 : 1048576 ≤ x
  · have d3 : decide ((1048576 : Int) ≤ (x : Int)) = true := decide_eq_true (by omega)
    have d3' : decide (1048576 ≤ x) = true := decide_eq_true (by omega)
    clear hz hZ z3 z200 x20
    go_enter Tryz.func8, Tryz.ntmps8
    go_wp2_with (first | (go_at_call 9; refine (alive8_any _).mono ?_; rintro e w2 ⟨rfl, hc2⟩) | fail)
    go_ret
    exact ⟨rfl, hc2⟩
  have d3 : decide ((1048576 : Int) ≤ (x : Int)) = false := decide_eq_false (by omega)
  have d3' : decide (1048576 ≤ x) = false := decide_eq_false (by omega)
  obtain ⟨n, rfl⟩ : ∃ n : Nat, z = (n : Int) := ⟨z.toNat, by omega⟩
  have d1' : decide (n < 3) = false := by simp; omega
  have d2' : decide (200 < n) = false := by simp; omega
  have HX : Hid (x < 1048576) := Lib.hid (by omega)
  have HB := Lib.hid (built_any w n a len c Z (by omega) (by omega) hZ)
  clear hz hZ z3 z200 x20 hx
  go_enter Tryz.func8, Tryz.ntmps8
  go_wp2_with fail
  refine HB.out.mono ?_
  rintro e w1 ⟨p, u, T, rfl, hp1⟩
  have HP1 := Lib.hid hp1.out
  have HR1 := Lib.hid (Read_v HP1.out.v x HX.out)
  clear hp1 HB
  go_wp2_with fail
  refine HR1.out.mono ?_
  rintro e w2 ⟨A, rfl, hA, hN, hc2⟩
  have HP2 := Lib.hid (HP1.out.kept hc2)
  clear hA hN hc2 HR1
  obtain ⟨⟨ck, cd, cb⟩, a1, c1, a2, c2⟩ := A
  unfold CeT.val cev
  simp only
  generalize cd.length = dn
  generalize cb.length = bn
  have HT2 := Lib.hid (fun o => Trimmed_v (HP2.out.kept ((Chg.refl [] w2).alloc o)).v)
  go_wp2_with fail
  refine (HT2.out _).mono ?_
  rintro e w3 ⟨v3, rfl, hl3, hc3⟩
  obtain ⟨a3, c3, rfl, hro3, -, -, -, -⟩ := hl3.form
  have HP3 := Lib.hid (HP2.out.kept (((Chg.refl [] w2).alloc _).trans hc3))
  have HRO3 := Lib.hid hro3
  have HM3 := Lib.hid (Mark_v HP3.out.v)
  have HGD := Lib.hid HP3.out.v.gd
  obtain ⟨N, hN⟩ : ∃ y, Hid (T.S.T.length = y) := ⟨_, Lib.hid rfl⟩
  have hNl : N ≤ 1000000 := by rw [← hN.out]; have := HP3.out.v.iv.runs HP3.out.v.top.2; omega
  rw [hN.out]
  obtain ⟨mr, hmr⟩ : ∃ y, Hid (T.S.mr = y) := ⟨_, Lib.hid rfl⟩
  rw [hmr.out] at HM3
  clear hl3 hro3 hc3 HT2
  go_wp2_with fail
  refine HM3.out.mono ?_
  rintro e w4 ⟨rfl, rfl⟩
  rename World => w4
  have HMK : Hid (∀ W, Chg [] w4 W → Calls Tryz.prog 29 #[.pointer (some ⟨u, 0, none⟩)] W fun e w' => e = .returned (.int .u64 (mr : Int)) ∧ w' = W) := Lib.hid (fun W hW => by
    have h9 := Mark_v (HP3.out.kept hW).v
    rwa [hmr.out] at h9)
  have HIN : Hid (.bool (decide (x < mr)) = Value.bool (decide (x < mr) || mem (T.S.T.take 0) x)) := Lib.hid (by simp [mem])
  go_wp2_with fail
  go_loopw [12, 13] (fun v12 vi wr => ∃ k : Nat, vi = .int .i64 k ∧ k ≤ N ∧ v12 = .bool (decide (x < mr) || mem (T.S.T.take k) x) ∧ Hid (Chg [] w4 wr)) (fun _ vi _ => N - (intOf vi).toNat)
  case atStart => exact ⟨0, rfl, Nat.zero_le _, by first | exact HIN.out | simpa using HIN.out, Lib.hid (Chg.refl [] w4)⟩
  case round =>
    obtain ⟨k, rfl, hk, rfl, HC⟩ := hrel
    rename World => wr
    by_cases hlt : k < N
    · have hkL : k < T.S.T.length := by rw [hN.out]; exact hlt
      obtain ⟨g, off, rfl, hg, hcl⟩ := HRO3.out.rn (by omega)
      obtain ⟨q1, q2⟩ := hcl k hkL
      have y1 := HC.out.cell q1 (by simp)
      have y2 := HC.out.cell q2 (by simp)
      have HEQ := Lib.hid (mem_take_el hkL x)
      have hlo := HGD.out.lo _ (el_mem hkL)
      rw [hmr.out] at hlo
      have hTL : ∀ W, Chg [] w4 W → Calls Tryz.prog 30 #[.pointer (some ⟨u, 0, none⟩)] W fun e w' => ∃ t : Nat, e = .returned (.int .u64 (t : Int)) ∧ (el T.S.T k).2 ≤ t ∧ Chg [] W w' := fun W hW =>
        (Tail_v (HP3.out.kept hW).v).mono fun e w' ⟨t, h1, h2, h3⟩ => ⟨t, h1, h2.run _ (el_mem hkL), h3⟩
      generalize el T.S.T k = r at *
      have HTL := Lib.hid hTL
      obtain ⟨B, hB⟩ : ∃ B, Hid ((decide (x < mr) || mem (T.S.T.take k) x) = B) := ⟨_, Lib.hid rfl⟩
      rw [hB.out]
      have e1 : decide ((r.1 : Int) < (mr : Int)) = false := decide_eq_false (by omega)
      have e1' : decide (r.1 < mr) = false := decide_eq_false (by omega)
      have hd1 : decide (k < N) = true := by simpa using hlt
      have hk0 : (0 : Int) ≤ (k : Int) := by omega
      have hk1 : (k : Int) < (N : Int) := by omega
      have hkb : (k : Int) ≤ 4000000 := by omega
      have HKM := Lib.hid (show N - (k + 1) < N - k by omega)
      have HLT := Lib.hid hlt
      clear hcl q1 q2 hlo hTL
      go_upto_region 12 with fail
      go_cut [12] from 56 to 74 (fun v12 wx => v12 = .bool (B || inR r x) ∧ wx = wr)
      case first =>
        cases B
        · by_cases h1 : r.1 ≤ x
          · have f1 : decide ((r.1 : Int) ≤ (x : Int)) = true := decide_eq_true (by omega)
            have f1' : decide (r.1 ≤ x) = true := decide_eq_true (by omega)
            by_cases h2 : x < r.2
            · have f2 : decide ((x : Int) < (r.2 : Int)) = true := decide_eq_true (by omega)
              have f2' : decide (x < r.2) = true := decide_eq_true (by omega)
              have HR := Lib.hid (inR_iff.2 ⟨h1, h2⟩)
              clear h1 h2
              go_wp2_with fail
              go_meet
              case rel => exact ⟨by rw [HR.out]; rfl, rfl⟩
            · have f2 : decide ((x : Int) < (r.2 : Int)) = false := decide_eq_false (by omega)
              have f2' : decide (x < r.2) = false := decide_eq_false (by omega)
              have HR := Lib.hid (inR_false.2 (show ¬ (r.1 ≤ x ∧ x < r.2) by omega))
              clear h1 h2
              go_wp2_with fail
              go_meet
              case rel => exact ⟨by rw [HR.out]; rfl, rfl⟩
          · have f1 : decide ((r.1 : Int) ≤ (x : Int)) = false := decide_eq_false (by omega)
            have f1' : decide (r.1 ≤ x) = false := decide_eq_false (by omega)
            have HR := Lib.hid (inR_false.2 (show ¬ (r.1 ≤ x ∧ x < r.2) by omega))
            clear h1
            go_wp2_with fail
            go_meet
            case rel => exact ⟨by rw [HR.out]; rfl, rfl⟩
        · go_wp2_with fail
          go_meet
          case rel => exact ⟨rfl, rfl⟩
      case rest =>
        obtain ⟨rfl, rfl⟩ := hcut
        rename World => wr
        go_upto_region 13 with fail
        refine wp_region_held_drew (S := (fun W : World => W.cell? ⟨g, off + k * 2, none⟩ = some (.int .u64 (r.1 : Int)) ∧ W.cell? ⟨g, off + k * 2 + 1, none⟩ = some (.int .u64 (r.2 : Int)) ∧ Chg [] w4 W)) (by kernel_rfl) (by exact ⟨y1, y2, HC.out.drew⟩) (fun hHeld => ?_)
        refine wpAnyH_take (i := 0) (v := ?_) rfl (by kernel_rfl) (by kernel_rfl) (by kernel_rfl) (fun _ _ _ h => h) (Or.inl ⟨by kernel_rfl, ?_⟩) hHeld ?_
        rotate_left
        · (intro w hSw; first | (go_simp; done) | (go_simp; with_reducible rfl))
        (try simp only [Act.put, List.getElem_toArray, List.getElem_cons_succ, List.getElem_cons_zero, List.setIfInBounds_toArray, List.set_cons_zero, List.set_cons_succ])
        refine wpAnyH_take (i := 1) (v := ?_) rfl (by kernel_rfl) (by kernel_rfl) (by kernel_rfl) (fun _ _ _ h => h) (Or.inl ⟨by kernel_rfl, ?_⟩) hHeld ?_
        rotate_left
        · (intro w hSw; first | (go_simp; done) | (go_simp; with_reducible rfl))
        (try simp only [Act.put, List.getElem_toArray, List.getElem_cons_succ, List.getElem_cons_zero, List.setIfInBounds_toArray, List.set_cons_zero, List.set_cons_succ])
        refine wpAnyH_take (i := 2) (v := ?_) rfl (by kernel_rfl) (by kernel_rfl) (by kernel_rfl) (fun _ _ _ h => h) (Or.inl ⟨by kernel_rfl, ?_⟩) hHeld ?_
        rotate_left
        · (intro w hSw; first | (go_simp; done) | (go_simp; with_reducible rfl))
        (try simp only [Act.put, List.getElem_toArray, List.getElem_cons_succ, List.getElem_cons_zero, List.setIfInBounds_toArray, List.set_cons_zero, List.set_cons_succ])
        refine wpAnyH_take (i := 3) (v := ?_) rfl (by kernel_rfl) (by kernel_rfl) (by kernel_rfl) (fun _ _ _ h => h) (Or.inl ⟨by kernel_rfl, ?_⟩) hHeld ?_
        rotate_left
        · (intro w hSw; first | (go_simp; done) | (go_simp; with_reducible rfl))
        (try simp only [Act.put, List.getElem_toArray, List.getElem_cons_succ, List.getElem_cons_zero, List.setIfInBounds_toArray, List.set_cons_zero, List.set_cons_succ])
        refine wpAnyH_take (i := 4) (v := ?_) rfl (by kernel_rfl) (by kernel_rfl) (by kernel_rfl) (fun _ _ _ h => h) (Or.inl ⟨by kernel_rfl, ?_⟩) hHeld ?_
        rotate_left
        · (intro w hSw; first | (go_simp; done) | (go_simp; with_reducible rfl))
        (try simp only [Act.put, List.getElem_toArray, List.getElem_cons_succ, List.getElem_cons_zero, List.setIfInBounds_toArray, List.set_cons_zero, List.set_cons_succ])
        refine wpAnyH_take (i := 5) (v := ?_) rfl (by kernel_rfl) (by kernel_rfl) (by kernel_rfl) (fun _ _ _ h => h) (Or.inl ⟨by kernel_rfl, ?_⟩) hHeld ?_
        rotate_left
        · (intro w hSw; first | (go_simp; done) | (go_simp; with_reducible rfl))
        (try simp only [Act.put, List.getElem_toArray, List.getElem_cons_succ, List.getElem_cons_zero, List.setIfInBounds_toArray, List.set_cons_zero, List.set_cons_succ])
        refine wpAnyH_ready (rs := [6]) (by kernel_rfl) (by simp) (AllReadyH.cons rfl (fun K hK => ?_) AllReadyH.nil)
        have hH := hHeld
        (go_simp; go_at_call 29; refine (HMK.out _ hH.2.2).mono ?_; rintro e w9 ⟨rfl, rfl⟩)
        refine hK.out _ _ (by exact hH) (fun hHq1 => ?_)
        clear hK K hH 
        (try simp only [Act.put, List.getElem_toArray, List.getElem_cons_succ, List.getElem_cons_zero, List.setIfInBounds_toArray, List.set_cons_zero, List.set_cons_succ])
        refine wpAnyH_take (i := 7) (v := ?_) rfl (by kernel_rfl) (by kernel_rfl) (by kernel_rfl) (fun _ _ _ h => h) (Or.inl ⟨by kernel_rfl, ?_⟩) hHq1 ?_
        rotate_left
        · (intro w hSw; first | (go_simp; done) | (go_simp; with_reducible rfl))
        (try simp only [Act.put, List.getElem_toArray, List.getElem_cons_succ, List.getElem_cons_zero, List.setIfInBounds_toArray, List.set_cons_zero, List.set_cons_succ])
        refine wpAnyH_take (i := 8) (v := ?_) rfl (by kernel_rfl) (by kernel_rfl) (by kernel_rfl) (fun _ _ _ h => h) (Or.inl ⟨by kernel_rfl, ?_⟩) hHq1 ?_
        rotate_left
        · (intro w hSw; first | (go_simp; done) | (go_simp; with_reducible rfl))
        (try simp only [Act.put, List.getElem_toArray, List.getElem_cons_succ, List.getElem_cons_zero, List.setIfInBounds_toArray, List.set_cons_zero, List.set_cons_succ])
        refine wpAnyH_take (i := 9) (v := ?_) rfl (by kernel_rfl) (by kernel_rfl) (by kernel_rfl) (fun _ _ _ h => h) (Or.inl ⟨by kernel_rfl, ?_⟩) hHq1 ?_
        rotate_left
        · (intro w hSw; first | (go_simp; done) | (go_simp; with_reducible rfl))
        (try simp only [Act.put, List.getElem_toArray, List.getElem_cons_succ, List.getElem_cons_zero, List.setIfInBounds_toArray, List.set_cons_zero, List.set_cons_succ])
        refine wpAnyH_take (i := 10) (v := ?_) rfl (by kernel_rfl) (by kernel_rfl) (by kernel_rfl) (fun _ _ _ h => h) (Or.inl ⟨by kernel_rfl, ?_⟩) hHq1 ?_
        rotate_left
        · (intro w hSw; first | (go_simp; done) | (go_simp; with_reducible rfl))
        (try simp only [Act.put, List.getElem_toArray, List.getElem_cons_succ, List.getElem_cons_zero, List.setIfInBounds_toArray, List.set_cons_zero, List.set_cons_succ])
        refine wpAnyH_take (i := 11) (v := ?_) rfl (by kernel_rfl) (by kernel_rfl) (by kernel_rfl) (fun _ _ _ h => h) (Or.inl ⟨by kernel_rfl, ?_⟩) hHq1 ?_
        rotate_left
        · (intro w hSw; first | (go_simp; done) | (go_simp; with_reducible rfl))
        (try simp only [Act.put, List.getElem_toArray, List.getElem_cons_succ, List.getElem_cons_zero, List.setIfInBounds_toArray, List.set_cons_zero, List.set_cons_succ])
        refine wpAnyH_take (i := 12) (v := ?_) rfl (by kernel_rfl) (by kernel_rfl) (by kernel_rfl) (fun _ _ _ h => h) (Or.inl ⟨by kernel_rfl, ?_⟩) hHq1 ?_
        rotate_left
        · (intro w hSw; first | (go_simp; done) | (go_simp; with_reducible rfl))
        (try simp only [Act.put, List.getElem_toArray, List.getElem_cons_succ, List.getElem_cons_zero, List.setIfInBounds_toArray, List.set_cons_zero, List.set_cons_succ])
        refine wpAnyH_take (i := 13) (v := ?_) rfl (by kernel_rfl) (by kernel_rfl) (by kernel_rfl) (fun _ _ _ h => h) (Or.inl ⟨by kernel_rfl, ?_⟩) hHq1 ?_
        rotate_left
        · (intro w hSw; first | (go_simp; done) | (go_simp; with_reducible rfl))
        (try simp only [Act.put, List.getElem_toArray, List.getElem_cons_succ, List.getElem_cons_zero, List.setIfInBounds_toArray, List.set_cons_zero, List.set_cons_succ])
        refine wpAnyH_take (i := 14) (v := ?_) rfl (by kernel_rfl) (by kernel_rfl) (by kernel_rfl) (fun _ _ _ h => h) (Or.inl ⟨by kernel_rfl, ?_⟩) hHq1 ?_
        rotate_left
        · (intro w hSw; first | (go_simp; done) | (go_simp; with_reducible rfl))
        (try simp only [Act.put, List.getElem_toArray, List.getElem_cons_succ, List.getElem_cons_zero, List.setIfInBounds_toArray, List.set_cons_zero, List.set_cons_succ])
        refine wpAnyH_ready (rs := [15]) (by kernel_rfl) (by simp) (AllReadyH.cons rfl (fun K hK => ?_) AllReadyH.nil)
        have hH := hHq1
        (go_simp; go_at_call 30; refine (HTL.out _ hH.2.2).mono ?_; rintro e w9 ⟨tt, rfl, htt, hc9⟩)
        refine hK.out _ _ (by exact ⟨hc9.cell hH.1 (by simp), hc9.cell hH.2.1 (by simp), hH.2.2.trans hc9⟩) (fun hHq2 => ?_)
        clear hK K hH hHq1
        have e2 : decide ((tt : Int) < (r.2 : Int)) = false := decide_eq_false (by omega); have e2' : decide (tt < r.2) = false := decide_eq_false (by omega)
        (try simp only [Act.put, List.getElem_toArray, List.getElem_cons_succ, List.getElem_cons_zero, List.setIfInBounds_toArray, List.set_cons_zero, List.set_cons_succ])
        refine wpAnyH_take (i := 16) (v := ?_) rfl (by kernel_rfl) (by kernel_rfl) (by kernel_rfl) (fun _ _ _ h => h) (Or.inl ⟨by kernel_rfl, ?_⟩) hHq2 ?_
        rotate_left
        · (intro w hSw; first | (go_simp; done) | (go_simp; with_reducible rfl))
        (try simp only [Act.put, List.getElem_toArray, List.getElem_cons_succ, List.getElem_cons_zero, List.setIfInBounds_toArray, List.set_cons_zero, List.set_cons_succ])
        refine wpAnyH_take (i := 17) (v := ?_) rfl (by kernel_rfl) (by kernel_rfl) (by kernel_rfl) (fun _ _ _ h => h) (Or.inl ⟨by kernel_rfl, ?_⟩) hHq2 ?_
        rotate_left
        · (intro w hSw; first | (go_simp; done) | (go_simp; with_reducible rfl))
        (try simp only [Act.put, List.getElem_toArray, List.getElem_cons_succ, List.getElem_cons_zero, List.setIfInBounds_toArray, List.set_cons_zero, List.set_cons_succ])
        refine wpAnyH_done (by kernel_rfl) ?_ _
        have hEnd := hHq2
        have HC9 := Lib.hid hEnd.2.2
        clear hEnd hHeld y1 y2
        go_wp2_with fail
        go_roundw
        case rel => exact ⟨k + 1, by go_num, by have := HLT.out; omega, by rw [HEQ.out, ← Bool.or_assoc, hB.out], HC9⟩
        case measure => have := HKM.out; simp [intOf]; omega
    · obtain rfl : k = N := by omega
      have hd1 : decide (k < k) = false := by simp
      have HTRX : Hid ((decide (x < mr) || mem (T.S.T.take k) x) = T.S.tr x) := Lib.hid (by
        rw [List.take_of_length_le (by rw [hN.out]; exact Nat.le_refl _)]
        unfold PS.tr
        rw [hmr.out])
      rw [HTRX.out]
      have HWT := Lib.hid (Written_v (HP3.out.kept HC.out).v)
      clear HTRX
      go_wp2_with fail
      refine HWT.out.mono ?_
      rintro e w5 ⟨v5, rfl, hl5, hc5⟩
      obtain ⟨a5, c5, e5, hro5, -, -⟩ := hl5.form
      obtain ⟨M, hM⟩ : ∃ y, Hid ((addrs T.S.m).length = y) := ⟨_, Lib.hid rfl⟩
      have hMl : M ≤ 1048576 := by rw [← hM.out]; exact nodup_le (addrs_nodup T.S.m) (fun y hy => (mem_addrs.1 hy).1)
      rw [u64s_length, hM.out] at e5
      subst e5
      have HP5 := Lib.hid ((HP3.out.kept HC.out).kept hc5)
      have HRO5 := Lib.hid hro5
      clear hl5 hro5 hc5 HWT
      have HAV : Hid (∀ W, Calls Tryz.prog 9 #[] W fun e w' => e = .returned (.bool true) ∧ Chg [] W w') := Lib.hid (fun W => alive8_any W)
      have HFIN : Hid (∀ W, Chg [] w5 W → Chg [] w W) := Lib.hid (fun W hW => (HP5.out.kept hW).c)
      have HAD : Hid ((.bool false : Value) = .bool (decide (x ∈ (addrs T.S.m).take 0))) := Lib.hid (by simp)
      go_wp2_with fail
      go_loopw [15, 16] (fun v15 vi wr => ∃ k : Nat, vi = .int .i64 k ∧ k ≤ M ∧ v15 = .bool (decide (x ∈ (addrs T.S.m).take k)) ∧ Hid (Chg [] w5 wr)) (fun _ vi _ => M - (intOf vi).toNat)
      case atStart => exact ⟨0, rfl, Nat.zero_le _, HAD.out, Lib.hid (Chg.refl [] w5)⟩
      case round =>
        obtain ⟨k, rfl, hk, rfl, HC5⟩ := hrel
        rename World => wr
        by_cases hlt : k < M
        · have hkL : k < (addrs T.S.m).length := by rw [hM.out]; exact hlt
          obtain ⟨g5, off5, rfl, hg5, hcl⟩ := HRO5.out.at_ (by intro e; have e2 := congrArg List.length e; rw [u64s_length] at e2; simp at e2; rw [e2] at hkL; simp at hkL)
          have hcx : ∀ i (hi : i < (addrs T.S.m).length), w5.cell? ⟨g5, off5 + i, none⟩ = some (.int .u64 (((addrs T.S.m)[i] : Nat) : Int)) := fun i hi => by
            have h9 := hcl i (by rw [u64s_length]; exact hi)
            rw [h9]
            simp [u64s, List.getD, hi]
          have hcy := HC5.out.cell (hcx k hkL) (by simp)
          have hmem := mem_addrs.1 (List.getElem_mem hkL)
          have HEQ : Hid (decide (x ∈ (addrs T.S.m).take (k + 1)) = (decide (x ∈ (addrs T.S.m).take k) || decide ((addrs T.S.m)[k] = x))) := Lib.hid (by
            have hap : ∀ (A : List Nat) (y : Nat), decide (x ∈ A ++ [y]) = (decide (x ∈ A) || decide (y = x)) := fun A y => by simp [eq_comm]
            rw [List.take_succ_eq_append_getElem hkL, hap])
          have hrd : rdE T.S ((addrs T.S.m)[k]) = 0 := by
            obtain ⟨ce, hce⟩ := Option.isSome_iff_exists.1 hmem.2
            unfold rdE
            rw [if_neg (by rw [(HGD.out.cell _ _ hce).2.2]; simp), if_pos hmem.2]
          have hprev : ∀ j, k = j + 1 → ∃ y' : Nat, wr.cell? ⟨g5, off5 + j, none⟩ = some (.int .u64 (y' : Int)) ∧ y' < (addrs T.S.m)[k] := fun j hj => by
            subst hj
            exact ⟨_, HC5.out.cell (hcx j (by omega)) (by simp), (List.pairwise_iff_getElem.1 (addrs_sorted T.S.m)) j (j + 1) (by omega) hkL (by omega)⟩
          have hTL : ∀ W, Chg [] w5 W → Calls Tryz.prog 30 #[.pointer (some ⟨u, 0, none⟩)] W fun e w' => ∃ t : Nat, e = .returned (.int .u64 (t : Int)) ∧ (addrs T.S.m)[k] < t ∧ Chg [] W w' := fun W hW =>
            (Tail_v (HP5.out.kept hW).v).mono fun e w' ⟨t, h1, h2, h3⟩ => ⟨t, h1, by have := h2.adr _ (List.getElem_mem hkL); omega, h3⟩
          generalize (addrs T.S.m)[k] = y at *
          have hRD : ∀ W, Chg [] w5 W → Calls Tryz.prog 32 #[.pointer (some ⟨u, 0, none⟩), .int .u64 (y : Int)] W fun e w' => ∃ A : CeT, e = .returned (.tuple #[A.val, .int .i64 0]) ∧ Chg [] W w' := fun W hW => by
            refine (Read_v (HP5.out.kept hW).v y hmem.1).mono ?_
            rintro e w' ⟨A, h1, _, _, h4⟩
            rw [hrd] at h1
            exact ⟨A, h1, h4⟩
          have HRD := Lib.hid hRD
          have HTL := Lib.hid hTL
          have HPV := Lib.hid hprev
          have HCX := Lib.hid hcy
          obtain ⟨B, hB⟩ : ∃ B, Hid (decide (x ∈ (addrs T.S.m).take k) = B) := ⟨_, Lib.hid rfl⟩
          rw [hB.out] at HEQ ⊢
          have hd1 : decide (k < M) = true := by simpa using hlt
          have hk0 : (0 : Int) ≤ (k : Int) := by omega
          have hk1 : (k : Int) < (M : Int) := by omega
          have hkb : (k : Int) ≤ 4000000 := by omega
          have HKM := Lib.hid (show M - (k + 1) < M - k by omega)
          have HLT := Lib.hid hlt
          clear hcl hcx hmem hrd hRD hTL hprev hkL
          go_upto_region 20 with fail
          go_cut [15] from 101 to 109 (fun v15 wx => v15 = .bool (B || decide (y = x)) ∧ wx = wr)
          case first =>
            cases B
            · by_cases h1 : y = x
              · subst h1
                go_wp2_with fail
                go_meet
                case rel => exact ⟨by simp, rfl⟩
              · have f1 : ((y : Int) == (x : Int)) = false := by simp; omega
                have f1' : (y == x) = false := by simpa using h1
                have f2 : decide ((y : Int) = (x : Int)) = false := decide_eq_false (by omega)
                have f2' : decide (y = x) = false := decide_eq_false h1
                have HF := Lib.hid f2'
                clear h1
                go_wp2_with fail
                go_meet
                case rel => exact ⟨by rw [HF.out]; rfl, rfl⟩
            · go_wp2_with fail
              go_meet
              case rel => exact ⟨by simp, rfl⟩
          case rest =>
            obtain ⟨rfl, rfl⟩ := hcut
            rename World => wr
            go_wp2_with fail
            refine (HRD.out _ HC5.out).mono ?_
            rintro e w6 ⟨A6, rfl, hc6⟩
            have HC6 := Lib.hid (HC5.out.trans hc6)
            obtain ⟨⟨ck6, cd6, cb6⟩, a6, c6, a7, c7⟩ := A6
            unfold CeT.val cev
            simp only
            generalize cd6.length = dn6
            generalize cb6.length = bn6
            have hcz : ∀ o, (w6.alloc o).cell? ⟨g5, off5 + k, none⟩ = some (.int .u64 (y : Int)) := fun o => (hc6.alloc o).cell HCX.out (by simp)
            have HCZ := Lib.hid hcz
            have HPZ : Hid (∀ j, k = j + 1 → ∃ y' : Nat, (∀ o, (w6.alloc o).cell? ⟨g5, off5 + j, none⟩ = some (.int .u64 (y' : Int))) ∧ y' < y) := Lib.hid (fun j hj => by
              obtain ⟨y', h1, h2⟩ := HPV.out j hj
              exact ⟨y', fun o => (hc6.alloc o).cell h1 (by simp), h2⟩)
            clear hc6 hcz hcy
            cases k with
            | zero =>
              go_upto_region 22 with fail
              refine wp_region_held_drew (S := (fun W : World => W.cell? ⟨g5, off5, none⟩ = some (.int .u64 (y : Int)) ∧ Chg [] w5 W)) (by kernel_rfl) (by exact ⟨HCZ.out _, (HC6.out.alloc _).drew⟩) (fun hHeld => ?_)
              refine wpAnyH_take (i := 0) (v := ?_) rfl (by kernel_rfl) (by kernel_rfl) (by kernel_rfl) (fun _ _ _ h => h) (Or.inl ⟨by kernel_rfl, ?_⟩) hHeld ?_
              rotate_left
              · (intro w hSw; first | (go_simp; done) | (go_simp; with_reducible rfl))
              (try simp only [Act.put, List.getElem_toArray, List.getElem_cons_succ, List.getElem_cons_zero, List.setIfInBounds_toArray, List.set_cons_zero, List.set_cons_succ])
              refine wpAnyH_take (i := 1) (v := ?_) rfl (by kernel_rfl) (by kernel_rfl) (by kernel_rfl) (fun _ _ _ h => h) (Or.inl ⟨by kernel_rfl, ?_⟩) hHeld ?_
              rotate_left
              · (intro w hSw; first | (go_simp; done) | (go_simp; with_reducible rfl))
              (try simp only [Act.put, List.getElem_toArray, List.getElem_cons_succ, List.getElem_cons_zero, List.setIfInBounds_toArray, List.set_cons_zero, List.set_cons_succ])
              refine wpAnyH_take (i := 2) (v := ?_) rfl (by kernel_rfl) (by kernel_rfl) (by kernel_rfl) (fun _ _ _ h => h) (Or.inl ⟨by kernel_rfl, ?_⟩) hHeld ?_
              rotate_left
              · (intro w hSw; first | (go_simp; done) | (go_simp; with_reducible rfl))
              (try simp only [Act.put, List.getElem_toArray, List.getElem_cons_succ, List.getElem_cons_zero, List.setIfInBounds_toArray, List.set_cons_zero, List.set_cons_succ])
              refine wpAnyH_take (i := 3) (v := ?_) rfl (by kernel_rfl) (by kernel_rfl) (by kernel_rfl) (fun _ _ _ h => h) (Or.inl ⟨by kernel_rfl, ?_⟩) hHeld ?_
              rotate_left
              · (intro w hSw; first | (go_simp; done) | (go_simp; with_reducible rfl))
              (try simp only [Act.put, List.getElem_toArray, List.getElem_cons_succ, List.getElem_cons_zero, List.setIfInBounds_toArray, List.set_cons_zero, List.set_cons_succ])
              refine wpAnyH_take (i := 4) (v := ?_) rfl (by kernel_rfl) (by kernel_rfl) (by kernel_rfl) (fun _ _ _ h => h) (Or.inl ⟨by kernel_rfl, ?_⟩) hHeld ?_
              rotate_left
              · (intro w hSw; first | (go_simp; done) | (go_simp; with_reducible rfl))
              (try simp only [Act.put, List.getElem_toArray, List.getElem_cons_succ, List.getElem_cons_zero, List.setIfInBounds_toArray, List.set_cons_zero, List.set_cons_succ])
              refine wpAnyH_take (i := 5) (v := ?_) rfl (by kernel_rfl) (by kernel_rfl) (by kernel_rfl) (fun _ _ _ h => h) (Or.inl ⟨by kernel_rfl, ?_⟩) hHeld ?_
              rotate_left
              · (intro w hSw; first | (go_simp; done) | (go_simp; with_reducible rfl))
              (try simp only [Act.put, List.getElem_toArray, List.getElem_cons_succ, List.getElem_cons_zero, List.setIfInBounds_toArray, List.set_cons_zero, List.set_cons_succ])
              refine wpAnyH_take (i := 6) (v := ?_) rfl (by kernel_rfl) (by kernel_rfl) (by kernel_rfl) (fun _ _ _ h => h) (Or.inl ⟨by kernel_rfl, ?_⟩) hHeld ?_
              rotate_left
              · (intro w hSw; first | (go_simp; done) | (go_simp; with_reducible rfl))
              (try simp only [Act.put, List.getElem_toArray, List.getElem_cons_succ, List.getElem_cons_zero, List.setIfInBounds_toArray, List.set_cons_zero, List.set_cons_succ])
              refine wpAnyH_take (i := 7) (v := ?_) rfl (by kernel_rfl) (by kernel_rfl) (by kernel_rfl) (fun _ _ _ h => h) (Or.inl ⟨by kernel_rfl, ?_⟩) hHeld ?_
              rotate_left
              · (intro w hSw; first | (go_simp; done) | (go_simp; with_reducible rfl))
              (try simp only [Act.put, List.getElem_toArray, List.getElem_cons_succ, List.getElem_cons_zero, List.setIfInBounds_toArray, List.set_cons_zero, List.set_cons_succ])
              refine wpAnyH_ready (rs := [8]) (by kernel_rfl) (by simp) (AllReadyH.cons rfl (fun K hK => ?_) AllReadyH.nil)
              have hH := hHeld
              (go_simp; go_at_call 30; refine (HTL.out _ hH.2).mono ?_; rintro e w9 ⟨tt, rfl, htt, hc9⟩)
              refine hK.out _ _ (by exact ⟨hc9.cell hH.1 (by simp), hH.2.trans hc9⟩) (fun hHq1 => ?_)
              clear hK K hH 
              have e2 : decide ((tt : Int) ≤ (y : Int)) = false := decide_eq_false (by omega); have e2' : decide (tt ≤ y) = false := decide_eq_false (by omega)
              (try simp only [Act.put, List.getElem_toArray, List.getElem_cons_succ, List.getElem_cons_zero, List.setIfInBounds_toArray, List.set_cons_zero, List.set_cons_succ])
              refine wpAnyH_take (i := 9) (v := ?_) rfl (by kernel_rfl) (by kernel_rfl) (by kernel_rfl) (fun _ _ _ h => h) (Or.inl ⟨by kernel_rfl, ?_⟩) hHq1 ?_
              rotate_left
              · (intro w hSw; first | (go_simp; done) | (go_simp; with_reducible rfl))
              (try simp only [Act.put, List.getElem_toArray, List.getElem_cons_succ, List.getElem_cons_zero, List.setIfInBounds_toArray, List.set_cons_zero, List.set_cons_succ])
              refine wpAnyH_take (i := 10) (v := ?_) rfl (by kernel_rfl) (by kernel_rfl) (by kernel_rfl) (fun _ _ _ h => h) (Or.inl ⟨by kernel_rfl, ?_⟩) hHq1 ?_
              rotate_left
              · (intro w hSw; first | (go_simp; done) | (go_simp; with_reducible rfl))
              (try simp only [Act.put, List.getElem_toArray, List.getElem_cons_succ, List.getElem_cons_zero, List.setIfInBounds_toArray, List.set_cons_zero, List.set_cons_succ])
              refine wpAnyH_take (i := 11) (v := ?_) rfl (by kernel_rfl) (by kernel_rfl) (by kernel_rfl) (fun _ _ _ h => h) (Or.inl ⟨by kernel_rfl, ?_⟩) hHq1 ?_
              rotate_left
              · (intro w hSw; first | (go_simp; done) | (go_simp; with_reducible rfl))
              (try simp only [Act.put, List.getElem_toArray, List.getElem_cons_succ, List.getElem_cons_zero, List.setIfInBounds_toArray, List.set_cons_zero, List.set_cons_succ])
              refine wpAnyH_take (i := 12) (v := ?_) rfl (by kernel_rfl) (by kernel_rfl) (by kernel_rfl) (fun _ _ _ h => h) (Or.inl ⟨by kernel_rfl, ?_⟩) hHq1 ?_
              rotate_left
              · (intro w hSw; first | (go_simp; done) | (go_simp; with_reducible rfl))
              (try simp only [Act.put, List.getElem_toArray, List.getElem_cons_succ, List.getElem_cons_zero, List.setIfInBounds_toArray, List.set_cons_zero, List.set_cons_succ])
              refine wpAnyH_take (i := 13) (v := ?_) rfl (by kernel_rfl) (by kernel_rfl) (by kernel_rfl) (fun _ _ _ h => h) (Or.inl ⟨by kernel_rfl, ?_⟩) hHq1 ?_
              rotate_left
              · (intro w hSw; first | (go_simp; done) | (go_simp; with_reducible rfl))
              (try simp only [Act.put, List.getElem_toArray, List.getElem_cons_succ, List.getElem_cons_zero, List.setIfInBounds_toArray, List.set_cons_zero, List.set_cons_succ])
              refine wpAnyH_take (i := 14) (v := ?_) rfl (by kernel_rfl) (by kernel_rfl) (by kernel_rfl) (fun _ _ _ h => h) (Or.inl ⟨by kernel_rfl, ?_⟩) hHq1 ?_
              rotate_left
              · (intro w hSw; first | (go_simp; done) | (go_simp; with_reducible rfl))
              (try simp only [Act.put, List.getElem_toArray, List.getElem_cons_succ, List.getElem_cons_zero, List.setIfInBounds_toArray, List.set_cons_zero, List.set_cons_succ])
              refine wpAnyH_take (i := 15) (v := undef) rfl (by kernel_rfl) (by kernel_rfl) (by kernel_rfl) (fun _ _ _ h => h) (Or.inr ⟨by kernel_rfl, rfl⟩) hHq1 ?_
              (try simp only [Act.put, List.getElem_toArray, List.getElem_cons_succ, List.getElem_cons_zero, List.setIfInBounds_toArray, List.set_cons_zero, List.set_cons_succ])
              refine wpAnyH_take (i := 16) (v := undef) rfl (by kernel_rfl) (by kernel_rfl) (by kernel_rfl) (fun _ _ _ h => h) (Or.inr ⟨by kernel_rfl, rfl⟩) hHq1 ?_
              (try simp only [Act.put, List.getElem_toArray, List.getElem_cons_succ, List.getElem_cons_zero, List.setIfInBounds_toArray, List.set_cons_zero, List.set_cons_succ])
              refine wpAnyH_take (i := 17) (v := undef) rfl (by kernel_rfl) (by kernel_rfl) (by kernel_rfl) (fun _ _ _ h => h) (Or.inr ⟨by kernel_rfl, rfl⟩) hHq1 ?_
              (try simp only [Act.put, List.getElem_toArray, List.getElem_cons_succ, List.getElem_cons_zero, List.setIfInBounds_toArray, List.set_cons_zero, List.set_cons_succ])
              refine wpAnyH_take (i := 18) (v := undef) rfl (by kernel_rfl) (by kernel_rfl) (by kernel_rfl) (fun _ _ _ h => h) (Or.inr ⟨by kernel_rfl, rfl⟩) hHq1 ?_
              (try simp only [Act.put, List.getElem_toArray, List.getElem_cons_succ, List.getElem_cons_zero, List.setIfInBounds_toArray, List.set_cons_zero, List.set_cons_succ])
              refine wpAnyH_take (i := 19) (v := undef) rfl (by kernel_rfl) (by kernel_rfl) (by kernel_rfl) (fun _ _ _ h => h) (Or.inr ⟨by kernel_rfl, rfl⟩) hHq1 ?_
              (try simp only [Act.put, List.getElem_toArray, List.getElem_cons_succ, List.getElem_cons_zero, List.setIfInBounds_toArray, List.set_cons_zero, List.set_cons_succ])
              refine wpAnyH_take (i := 20) (v := undef) rfl (by kernel_rfl) (by kernel_rfl) (by kernel_rfl) (fun _ _ _ h => h) (Or.inr ⟨by kernel_rfl, rfl⟩) hHq1 ?_
              (try simp only [Act.put, List.getElem_toArray, List.getElem_cons_succ, List.getElem_cons_zero, List.setIfInBounds_toArray, List.set_cons_zero, List.set_cons_succ])
              refine wpAnyH_take (i := 21) (v := undef) rfl (by kernel_rfl) (by kernel_rfl) (by kernel_rfl) (fun _ _ _ h => h) (Or.inr ⟨by kernel_rfl, rfl⟩) hHq1 ?_
              (try simp only [Act.put, List.getElem_toArray, List.getElem_cons_succ, List.getElem_cons_zero, List.setIfInBounds_toArray, List.set_cons_zero, List.set_cons_succ])
              refine wpAnyH_take (i := 22) (v := undef) rfl (by kernel_rfl) (by kernel_rfl) (by kernel_rfl) (fun _ _ _ h => h) (Or.inr ⟨by kernel_rfl, rfl⟩) hHq1 ?_
              (try simp only [Act.put, List.getElem_toArray, List.getElem_cons_succ, List.getElem_cons_zero, List.setIfInBounds_toArray, List.set_cons_zero, List.set_cons_succ])
              refine wpAnyH_take (i := 23) (v := undef) rfl (by kernel_rfl) (by kernel_rfl) (by kernel_rfl) (fun _ _ _ h => h) (Or.inr ⟨by kernel_rfl, rfl⟩) hHq1 ?_
              (try simp only [Act.put, List.getElem_toArray, List.getElem_cons_succ, List.getElem_cons_zero, List.setIfInBounds_toArray, List.set_cons_zero, List.set_cons_succ])
              refine wpAnyH_take (i := 24) (v := undef) rfl (by kernel_rfl) (by kernel_rfl) (by kernel_rfl) (fun _ _ _ h => h) (Or.inr ⟨by kernel_rfl, rfl⟩) hHq1 ?_
              (try simp only [Act.put, List.getElem_toArray, List.getElem_cons_succ, List.getElem_cons_zero, List.setIfInBounds_toArray, List.set_cons_zero, List.set_cons_succ])
              refine wpAnyH_take (i := 25) (v := ?_) rfl (by kernel_rfl) (by kernel_rfl) (by kernel_rfl) (fun _ _ _ h => h) (Or.inl ⟨by kernel_rfl, ?_⟩) hHq1 ?_
              rotate_left
              · (intro w hSw; first | (go_simp; done) | (go_simp; with_reducible rfl))
              (try simp only [Act.put, List.getElem_toArray, List.getElem_cons_succ, List.getElem_cons_zero, List.setIfInBounds_toArray, List.set_cons_zero, List.set_cons_succ])
              refine wpAnyH_take (i := 26) (v := ?_) rfl (by kernel_rfl) (by kernel_rfl) (by kernel_rfl) (fun _ _ _ h => h) (Or.inl ⟨by kernel_rfl, ?_⟩) hHq1 ?_
              rotate_left
              · (intro w hSw; first | (go_simp; done) | (go_simp; with_reducible rfl))
              (try simp only [Act.put, List.getElem_toArray, List.getElem_cons_succ, List.getElem_cons_zero, List.setIfInBounds_toArray, List.set_cons_zero, List.set_cons_succ])
              refine wpAnyH_done (by kernel_rfl) ?_ _
              have hEnd := hHq1
              have HC9 := Lib.hid hEnd.2
              clear hEnd hHeld
              go_wp2_with fail
              go_roundw
              case rel => exact ⟨0 + 1, by go_num, by have := HLT.out; omega, by rw [HEQ.out], HC9⟩
              case measure => have := HKM.out; simp [intOf] at *; omega
            | succ j =>
              obtain ⟨y', hy1, hy2⟩ := HPZ.out j rfl
              have HY := Lib.hid hy1
              have e3 : decide ((y : Int) ≤ (y' : Int)) = false := decide_eq_false (by omega)
              have e3' : decide (y ≤ y') = false := decide_eq_false (by omega)
              have j0 : (0 : Int) ≤ (j : Int) + 1 := by omega
              have j1 : (j : Int) + 1 < (M : Int) := by have := HLT.out; omega
              have j2 : (0 : Int) ≤ (j : Int) := by omega
              have j3 : (j : Int) < (M : Int) := by omega
              have hwj : IntKind.i64.wrap (j : Int) = (j : Int) := IntWalk.i64_in _ (by have := HLT.out; omega)
              have j4 : decide ((0 : Int) < (j : Int) + 1) = true := decide_eq_true (by omega)
              clear hy1 hy2 hk0 hk1 hkb
              go_upto_region 22 with fail
              refine wp_region_held_drew (S := (fun W : World => W.cell? ⟨g5, off5 + (j + 1), none⟩ = some (.int .u64 (y : Int)) ∧ W.cell? ⟨g5, off5 + j, none⟩ = some (.int .u64 (y' : Int)) ∧ Chg [] w5 W)) (by kernel_rfl) (by exact ⟨HCZ.out _, HY.out _, (HC6.out.alloc _).drew⟩) (fun hHeld => ?_)
              refine wpAnyH_take (i := 0) (v := ?_) rfl (by kernel_rfl) (by kernel_rfl) (by kernel_rfl) (fun _ _ _ h => h) (Or.inl ⟨by kernel_rfl, ?_⟩) hHeld ?_
              rotate_left
              · (intro w hSw; first | (go_simp; done) | (go_simp; with_reducible rfl))
              (try simp only [Act.put, List.getElem_toArray, List.getElem_cons_succ, List.getElem_cons_zero, List.setIfInBounds_toArray, List.set_cons_zero, List.set_cons_succ])
              refine wpAnyH_take (i := 1) (v := ?_) rfl (by kernel_rfl) (by kernel_rfl) (by kernel_rfl) (fun _ _ _ h => h) (Or.inl ⟨by kernel_rfl, ?_⟩) hHeld ?_
              rotate_left
              · (intro w hSw; first | (go_simp; done) | (go_simp; with_reducible rfl))
              (try simp only [Act.put, List.getElem_toArray, List.getElem_cons_succ, List.getElem_cons_zero, List.setIfInBounds_toArray, List.set_cons_zero, List.set_cons_succ])
              refine wpAnyH_take (i := 2) (v := ?_) rfl (by kernel_rfl) (by kernel_rfl) (by kernel_rfl) (fun _ _ _ h => h) (Or.inl ⟨by kernel_rfl, ?_⟩) hHeld ?_
              rotate_left
              · (intro w hSw; first | (go_simp; done) | (go_simp; with_reducible rfl))
              (try simp only [Act.put, List.getElem_toArray, List.getElem_cons_succ, List.getElem_cons_zero, List.setIfInBounds_toArray, List.set_cons_zero, List.set_cons_succ])
              refine wpAnyH_take (i := 3) (v := ?_) rfl (by kernel_rfl) (by kernel_rfl) (by kernel_rfl) (fun _ _ _ h => h) (Or.inl ⟨by kernel_rfl, ?_⟩) hHeld ?_
              rotate_left
              · (intro w hSw; first | (go_simp; done) | (go_simp; with_reducible rfl))
              (try simp only [Act.put, List.getElem_toArray, List.getElem_cons_succ, List.getElem_cons_zero, List.setIfInBounds_toArray, List.set_cons_zero, List.set_cons_succ])
              refine wpAnyH_take (i := 4) (v := ?_) rfl (by kernel_rfl) (by kernel_rfl) (by kernel_rfl) (fun _ _ _ h => h) (Or.inl ⟨by kernel_rfl, ?_⟩) hHeld ?_
              rotate_left
              · (intro w hSw; first | (go_simp; done) | (go_simp; with_reducible rfl))
              (try simp only [Act.put, List.getElem_toArray, List.getElem_cons_succ, List.getElem_cons_zero, List.setIfInBounds_toArray, List.set_cons_zero, List.set_cons_succ])
              refine wpAnyH_take (i := 5) (v := ?_) rfl (by kernel_rfl) (by kernel_rfl) (by kernel_rfl) (fun _ _ _ h => h) (Or.inl ⟨by kernel_rfl, ?_⟩) hHeld ?_
              rotate_left
              · (intro w hSw; first | (go_simp; done) | (go_simp; with_reducible rfl))
              (try simp only [Act.put, List.getElem_toArray, List.getElem_cons_succ, List.getElem_cons_zero, List.setIfInBounds_toArray, List.set_cons_zero, List.set_cons_succ])
              refine wpAnyH_take (i := 6) (v := ?_) rfl (by kernel_rfl) (by kernel_rfl) (by kernel_rfl) (fun _ _ _ h => h) (Or.inl ⟨by kernel_rfl, ?_⟩) hHeld ?_
              rotate_left
              · (intro w hSw; first | (go_simp; done) | (go_simp; with_reducible rfl))
              (try simp only [Act.put, List.getElem_toArray, List.getElem_cons_succ, List.getElem_cons_zero, List.setIfInBounds_toArray, List.set_cons_zero, List.set_cons_succ])
              refine wpAnyH_take (i := 7) (v := ?_) rfl (by kernel_rfl) (by kernel_rfl) (by kernel_rfl) (fun _ _ _ h => h) (Or.inl ⟨by kernel_rfl, ?_⟩) hHeld ?_
              rotate_left
              · (intro w hSw; first | (go_simp; done) | (go_simp; with_reducible rfl))
              (try simp only [Act.put, List.getElem_toArray, List.getElem_cons_succ, List.getElem_cons_zero, List.setIfInBounds_toArray, List.set_cons_zero, List.set_cons_succ])
              refine wpAnyH_ready (rs := [8]) (by kernel_rfl) (by simp) (AllReadyH.cons rfl (fun K hK => ?_) AllReadyH.nil)
              have hH := hHeld
              (go_simp; go_at_call 30; refine (HTL.out _ hH.2.2).mono ?_; rintro e w9 ⟨tt, rfl, htt, hc9⟩)
              refine hK.out _ _ (by exact ⟨hc9.cell hH.1 (by simp), hc9.cell hH.2.1 (by simp), hH.2.2.trans hc9⟩) (fun hHq1 => ?_)
              clear hK K hH 
              have e2 : decide ((tt : Int) ≤ (y : Int)) = false := decide_eq_false (by omega); have e2' : decide (tt ≤ y) = false := decide_eq_false (by omega)
              (try simp only [Act.put, List.getElem_toArray, List.getElem_cons_succ, List.getElem_cons_zero, List.setIfInBounds_toArray, List.set_cons_zero, List.set_cons_succ])
              refine wpAnyH_take (i := 9) (v := ?_) rfl (by kernel_rfl) (by kernel_rfl) (by kernel_rfl) (fun _ _ _ h => h) (Or.inl ⟨by kernel_rfl, ?_⟩) hHq1 ?_
              rotate_left
              · (intro w hSw; first | (go_simp; done) | (go_simp; with_reducible rfl))
              (try simp only [Act.put, List.getElem_toArray, List.getElem_cons_succ, List.getElem_cons_zero, List.setIfInBounds_toArray, List.set_cons_zero, List.set_cons_succ])
              refine wpAnyH_take (i := 10) (v := ?_) rfl (by kernel_rfl) (by kernel_rfl) (by kernel_rfl) (fun _ _ _ h => h) (Or.inl ⟨by kernel_rfl, ?_⟩) hHq1 ?_
              rotate_left
              · (intro w hSw; first | (go_simp; done) | (go_simp; with_reducible rfl))
              (try simp only [Act.put, List.getElem_toArray, List.getElem_cons_succ, List.getElem_cons_zero, List.setIfInBounds_toArray, List.set_cons_zero, List.set_cons_succ])
              refine wpAnyH_take (i := 11) (v := ?_) rfl (by kernel_rfl) (by kernel_rfl) (by kernel_rfl) (fun _ _ _ h => h) (Or.inl ⟨by kernel_rfl, ?_⟩) hHq1 ?_
              rotate_left
              · (intro w hSw; first | (go_simp; done) | (go_simp; with_reducible rfl))
              (try simp only [Act.put, List.getElem_toArray, List.getElem_cons_succ, List.getElem_cons_zero, List.setIfInBounds_toArray, List.set_cons_zero, List.set_cons_succ])
              refine wpAnyH_take (i := 12) (v := ?_) rfl (by kernel_rfl) (by kernel_rfl) (by kernel_rfl) (fun _ _ _ h => h) (Or.inl ⟨by kernel_rfl, ?_⟩) hHq1 ?_
              rotate_left
              · (intro w hSw; first | (go_simp; done) | (go_simp; with_reducible rfl))
              (try simp only [Act.put, List.getElem_toArray, List.getElem_cons_succ, List.getElem_cons_zero, List.setIfInBounds_toArray, List.set_cons_zero, List.set_cons_succ])
              refine wpAnyH_take (i := 13) (v := ?_) rfl (by kernel_rfl) (by kernel_rfl) (by kernel_rfl) (fun _ _ _ h => h) (Or.inl ⟨by kernel_rfl, ?_⟩) hHq1 ?_
              rotate_left
              · (intro w hSw; first | (go_simp; done) | (go_simp; with_reducible rfl))
              (try simp only [Act.put, List.getElem_toArray, List.getElem_cons_succ, List.getElem_cons_zero, List.setIfInBounds_toArray, List.set_cons_zero, List.set_cons_succ])
              refine wpAnyH_take (i := 14) (v := ?_) rfl (by kernel_rfl) (by kernel_rfl) (by kernel_rfl) (fun _ _ _ h => h) (Or.inl ⟨by kernel_rfl, ?_⟩) hHq1 ?_
              rotate_left
              · (intro w hSw; first | (go_simp; done) | (go_simp; with_reducible rfl))
              (try simp only [Act.put, List.getElem_toArray, List.getElem_cons_succ, List.getElem_cons_zero, List.setIfInBounds_toArray, List.set_cons_zero, List.set_cons_succ])
              refine wpAnyH_take (i := 15) (v := ?_) rfl (by kernel_rfl) (by kernel_rfl) (by kernel_rfl) (fun _ _ _ h => h) (Or.inl ⟨by kernel_rfl, ?_⟩) hHq1 ?_
              rotate_left
              · (intro w hSw; first | (go_simp; done) | (go_simp; with_reducible rfl))
              (try simp only [Act.put, List.getElem_toArray, List.getElem_cons_succ, List.getElem_cons_zero, List.setIfInBounds_toArray, List.set_cons_zero, List.set_cons_succ])
              refine wpAnyH_take (i := 16) (v := ?_) rfl (by kernel_rfl) (by kernel_rfl) (by kernel_rfl) (fun _ _ _ h => h) (Or.inl ⟨by kernel_rfl, ?_⟩) hHq1 ?_
              rotate_left
              · (intro w hSw; first | (go_simp; done) | (go_simp; with_reducible rfl))
              (try simp only [Act.put, List.getElem_toArray, List.getElem_cons_succ, List.getElem_cons_zero, List.setIfInBounds_toArray, List.set_cons_zero, List.set_cons_succ])
              refine wpAnyH_take (i := 17) (v := ?_) rfl (by kernel_rfl) (by kernel_rfl) (by kernel_rfl) (fun _ _ _ h => h) (Or.inl ⟨by kernel_rfl, ?_⟩) hHq1 ?_
              rotate_left
              · (intro w hSw; first | (go_simp; done) | (go_simp; with_reducible rfl))
              (try simp only [Act.put, List.getElem_toArray, List.getElem_cons_succ, List.getElem_cons_zero, List.setIfInBounds_toArray, List.set_cons_zero, List.set_cons_succ])
              refine wpAnyH_take (i := 18) (v := ?_) rfl (by kernel_rfl) (by kernel_rfl) (by kernel_rfl) (fun _ _ _ h => h) (Or.inl ⟨by kernel_rfl, ?_⟩) hHq1 ?_
              rotate_left
              · (intro w hSw; first | (go_simp; done) | (go_simp; with_reducible rfl))
              (try simp only [Act.put, List.getElem_toArray, List.getElem_cons_succ, List.getElem_cons_zero, List.setIfInBounds_toArray, List.set_cons_zero, List.set_cons_succ])
              refine wpAnyH_take (i := 19) (v := ?_) rfl (by kernel_rfl) (by kernel_rfl) (by kernel_rfl) (fun _ _ _ h => h) (Or.inl ⟨by kernel_rfl, ?_⟩) hHq1 ?_
              rotate_left
              · (intro w hSw; first | (go_simp; done) | (go_simp; with_reducible rfl))
              (try simp only [Act.put, List.getElem_toArray, List.getElem_cons_succ, List.getElem_cons_zero, List.setIfInBounds_toArray, List.set_cons_zero, List.set_cons_succ])
              refine wpAnyH_take (i := 20) (v := ?_) rfl (by kernel_rfl) (by kernel_rfl) (by kernel_rfl) (fun _ _ _ h => h) (Or.inl ⟨by kernel_rfl, ?_⟩) hHq1 ?_
              rotate_left
              · (intro w hSw; first | (go_simp; done) | (go_simp; with_reducible rfl))
              (try simp only [Act.put, List.getElem_toArray, List.getElem_cons_succ, List.getElem_cons_zero, List.setIfInBounds_toArray, List.set_cons_zero, List.set_cons_succ])
              refine wpAnyH_take (i := 21) (v := ?_) rfl (by kernel_rfl) (by kernel_rfl) (by kernel_rfl) (fun _ _ _ h => h) (Or.inl ⟨by kernel_rfl, ?_⟩) hHq1 ?_
              rotate_left
              · (intro w hSw; first | (go_simp; done) | (go_simp; with_reducible rfl))
              (try simp only [Act.put, List.getElem_toArray, List.getElem_cons_succ, List.getElem_cons_zero, List.setIfInBounds_toArray, List.set_cons_zero, List.set_cons_succ])
              refine wpAnyH_take (i := 22) (v := ?_) rfl (by kernel_rfl) (by kernel_rfl) (by kernel_rfl) (fun _ _ _ h => h) (Or.inl ⟨by kernel_rfl, ?_⟩) hHq1 ?_
              rotate_left
              · (intro w hSw; first | (go_simp; done) | (go_simp; with_reducible rfl))
              (try simp only [Act.put, List.getElem_toArray, List.getElem_cons_succ, List.getElem_cons_zero, List.setIfInBounds_toArray, List.set_cons_zero, List.set_cons_succ])
              refine wpAnyH_take (i := 23) (v := ?_) rfl (by kernel_rfl) (by kernel_rfl) (by kernel_rfl) (fun _ _ _ h => h) (Or.inl ⟨by kernel_rfl, ?_⟩) hHq1 ?_
              rotate_left
              · (intro w hSw; first | (go_simp; done) | (go_simp; with_reducible rfl))
              (try simp only [Act.put, List.getElem_toArray, List.getElem_cons_succ, List.getElem_cons_zero, List.setIfInBounds_toArray, List.set_cons_zero, List.set_cons_succ])
              refine wpAnyH_take (i := 24) (v := ?_) rfl (by kernel_rfl) (by kernel_rfl) (by kernel_rfl) (fun _ _ _ h => h) (Or.inl ⟨by kernel_rfl, ?_⟩) hHq1 ?_
              rotate_left
              · (intro w hSw; first | (go_simp; done) | (go_simp; with_reducible rfl))
              (try simp only [Act.put, List.getElem_toArray, List.getElem_cons_succ, List.getElem_cons_zero, List.setIfInBounds_toArray, List.set_cons_zero, List.set_cons_succ])
              refine wpAnyH_take (i := 25) (v := ?_) rfl (by kernel_rfl) (by kernel_rfl) (by kernel_rfl) (fun _ _ _ h => h) (Or.inl ⟨by kernel_rfl, ?_⟩) hHq1 ?_
              rotate_left
              · (intro w hSw; first | (go_simp; done) | (go_simp; with_reducible rfl))
              (try simp only [Act.put, List.getElem_toArray, List.getElem_cons_succ, List.getElem_cons_zero, List.setIfInBounds_toArray, List.set_cons_zero, List.set_cons_succ])
              refine wpAnyH_take (i := 26) (v := ?_) rfl (by kernel_rfl) (by kernel_rfl) (by kernel_rfl) (fun _ _ _ h => h) (Or.inl ⟨by kernel_rfl, ?_⟩) hHq1 ?_
              rotate_left
              · (intro w hSw; first | (go_simp; done) | (go_simp; with_reducible rfl))
              (try simp only [Act.put, List.getElem_toArray, List.getElem_cons_succ, List.getElem_cons_zero, List.setIfInBounds_toArray, List.set_cons_zero, List.set_cons_succ])
              refine wpAnyH_done (by kernel_rfl) ?_ _
              have hEnd := hHq1
              have HC9 := Lib.hid hEnd.2.2
              clear hEnd hHeld
              go_wp2_with fail
              go_roundw
              case rel => exact ⟨j + 1 + 1, by go_num, by have := HLT.out; omega, by rw [HEQ.out], HC9⟩
              case measure => have := HKM.out; simp [intOf] at *; omega
        · obtain rfl : k = M := by omega
          have hd1 : decide (k < k) = false := by simp
          have HHAS : Hid (decide (x ∈ (addrs T.S.m).take k) = (T.S.m x).isSome) := Lib.hid (by
            rw [List.take_of_length_le (by rw [hM.out]; exact Nat.le_refl _)]
            rw [Bool.eq_iff_iff, decide_eq_true_iff, mem_addrs]
            exact ⟨fun h => h.2, fun h => ⟨HX.out, h⟩⟩)
          have HRX : Hid ((T.S.tr x = true → (T.S.m x).isSome = false)) := Lib.hid (fun h => by
            cases hm : T.S.m x with
            | none => rfl
            | some ce => have := (HGD.out.cell x ce hm).2.2; rw [this] at h; cases h)
          rw [HHAS.out]
          have hre : rdE T.S x = if T.S.tr x = true then 83 else if (T.S.m x).isSome = true then 0 else 82 := rfl
          rw [hre]
          have HRX' := HRX.out
          obtain ⟨b1, hb1⟩ : ∃ b, T.S.tr x = b := ⟨_, rfl⟩
          obtain ⟨b2, hb2⟩ : ∃ b, (T.S.m x).isSome = b := ⟨_, rfl⟩
          rw [hb1, hb2] at HRX' ⊢
          clear hb1 hb2 HHAS HRX hre
          cases b1
          · cases b2
            · go_wp2_with fail
              refine (HAV.out _).mono ?_
              rintro e w9 ⟨rfl, hc9⟩
              have HF := Lib.hid (HFIN.out _ (HC5.out.trans hc9))
              clear hc9
              go_wp2_with fail
              go_ret
              exact ⟨rfl, HF.out⟩
            · go_wp2_with fail
              refine (HAV.out _).mono ?_
              rintro e w9 ⟨rfl, hc9⟩
              have HF := Lib.hid (HFIN.out _ (HC5.out.trans hc9))
              clear hc9
              go_wp2_with fail
              go_ret
              exact ⟨rfl, HF.out⟩
          · have hb : b2 = false := HRX' rfl
            subst hb
            go_wp2_with fail
            refine (HAV.out _).mono ?_
            rintro e w9 ⟨rfl, hc9⟩
            have HF := Lib.hid (HFIN.out _ (HC5.out.trans hc9))
            clear hc9
            go_wp2_with fail
            go_ret
            exact ⟨rfl, HF.out⟩
theorem pagesTrims_row (w : World) {z : Int} (hz : (Lit.int .i64 z).wf = true) {a : Option Addr} {len c : Nat} {Z : Nat → ActT8} (hZ : IsActs8 w a len Z) {x : Int} (hx : (Lit.int .u64 x).wf = true) :
    Calls Tryz.prog 8 #[.int .i64 z, .slice a len c, .int .u64 x] w fun e w' => e = .returned (.bool true) ∧ Below w.heap.size w w' := by
  have hb := bounds_u64 hx
  obtain ⟨y, rfl⟩ : ∃ y : Nat, x = (y : Int) := ⟨x.toNat, by omega⟩
  exact (pagesTrims_walk w z a len c Z y (bounds_i64 hz) hZ (by omega)).mono fun e w' h => ⟨h.1, h.2.low⟩
end Go.Proofs.YtmpajlpemabniaaGreat
