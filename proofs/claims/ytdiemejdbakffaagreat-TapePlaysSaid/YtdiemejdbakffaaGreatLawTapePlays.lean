/-
  The statement TapePlays, walked. No condition but the ranges of the arguments.
-/
import Derived.Test.YtdiemejdbakffaaGreatRt18
import Derived.Deep.CutBlock
import Derived.Deep.CutRange
namespace Go.Proofs.YtdiemejdbakffaaGreat
open Go.RowKit Go.Maps Go.Shelf Go.Deep
set_option linter.unusedVariables false
set_option linter.unusedSimpArgs false

theorem play_exit {k len : Nat} (h : ¬ (k < len ∧ k < 60)) : decide (k < len) = false ∨ (decide (k < len) = true ∧ decide ((k : Int) < 60) = false) := by
  by_cases h2 : k < len
  · exact .inr ⟨by simp; omega, by simp; omega⟩
  · exact .inl (by simp; omega)

set_option maxHeartbeats 4000000 in
set_option maxRecDepth 100000 in
theorem tapePlays_out (w : World) (z : Int) (a : Option Addr) (len cap : Nat) (h60 : 60 < z) :
    Calls Tryz.prog 3 #[.int .i64 z, .slice a len cap] w fun e w' => e = .returned (.bool true) ∧ Chg [] w w' := by
  have d1 : decide (60 < z) = true := by simpa using h60
  clear h60
  go_enter Tryz.func3, Tryz.ntmps3
  go_wp2_with (first | (go_at_call 4; refine (alive_any _).mono ?_; rintro e wz ⟨rfl, hcz⟩) | fail)
  go_ret
  exact ⟨rfl, hcz⟩
set_option maxHeartbeats 4000000 in
set_option maxRecDepth 100000 in
theorem tapePlays_none (w : World) (z : Int) (a : Option Addr) (len cap : Nat) (h1 : z < 1) :
    Calls Tryz.prog 3 #[.int .i64 z, .slice a len cap] w fun e w' => e = .returned (.bool true) ∧ Chg [] w w' := by
  have d1 : decide (60 < z) = false := by simp; omega
  have d2 : decide (z < 3) = true := by simp; omega
  have HN := Lib.hid (new_no w z (.inl h1))
  have HM := Lib.hid (made_no w z (.inl h1))
  have HO := Lib.hid (open_nil w)
  clear h1
  go_enter Tryz.func3, Tryz.ntmps3
  go_wp2_with (first
    | (go_at_call 5; refine HN.out.mono ?_; rintro e w' ⟨rfl, rfl⟩)
    | (go_at_call 6; refine HM.out.mono ?_; rintro e w' ⟨rfl, rfl⟩)
    | (go_at_call 7; refine HO.out.mono ?_; rintro e w' ⟨rfl, rfl⟩)
    | (go_at_call 4; refine (alive_any _).mono ?_; rintro e wz ⟨rfl, hcz⟩)
    | fail)
  go_ret
  exact ⟨rfl, hcz⟩
set_option maxHeartbeats 4000000 in
set_option maxRecDepth 100000 in
theorem tapePlays_few (w : World) (n : Nat) (a : Option Addr) (len cap : Nat) (h1 : 1 ≤ n) (h3 : n < 3) :
    Calls Tryz.prog 3 #[.int .i64 (n : Int), .slice a len cap] w fun e w' => e = .returned (.bool true) ∧ Chg [] w w' := by
  have d1 : decide ((60 : Int) < (n : Int)) = false := by simp; omega
  have d1' : decide (60 < n) = false := by simp; omega
  have d2 : decide ((n : Int) < 3) = true := by simp; omega
  have d2' : decide (n < 3) = true := by simp; omega
  have HN := Lib.hid (new_ex w n h1 (by omega))
  go_enter Tryz.func3, Tryz.ntmps3
  go_wp2_with fail
  refine HN.out.mono ?_
  rintro e w1 ⟨p, g, b, rfl, hp, hg, hb, hd1, hc1⟩
  have HM := Lib.hid (made_ok w1 n h1 (by omega))
  have HD1 := Lib.hid hd1
  have HC1 := Lib.hid hc1
  clear hp hg hb hd1 hc1
  go_wp2_with fail
  refine HM.out.mono ?_
  rintro e w2 ⟨q, gn, go, gd, rfl, hq, hgn, hgo, hgd, hr2, hc2⟩
  have HO := Lib.hid (open_few w2 (HD1.out.kept hc2) h3)
  have HC2 := Lib.hid (HC1.out.trans hc2)
  clear hq hgn hgo hgd hr2 hc2 h3 h1
  go_wp2_with (first
    | (go_at_call 7; refine HO.out.mono ?_; rintro e w' ⟨rfl, rfl⟩)
    | (go_at_call 4; refine (alive_any _).mono ?_; rintro e wz ⟨rfl, hcz⟩)
    | fail)
  go_ret
  exact ⟨rfl, HC2.out.trans hcz⟩

set_option maxHeartbeats 16000000 in
set_option maxRecDepth 100000 in
theorem tapePlays_main (w : World) (n : Nat) (a : Option Addr) (len cap : Nat) (A : Nat → ActT) (hA : IsActs w a len A) (hn3 : 3 ≤ n) (h60 : n ≤ 60) :
    Calls Tryz.prog 3 #[.int .i64 (n : Int), .slice a len cap] w fun e w' => e = .returned (.bool true) ∧ Chg [] w w' := by
  have d1 : decide ((60 : Int) < (n : Int)) = false := by simp; omega
  have d1' : decide (60 < n) = false := by simp; omega
  have d2 : decide ((n : Int) < 3) = false := by simp; omega
  have d2' : decide (n < 3) = false := by simp; omega
  have HN := Lib.hid (new_ex w n (by omega) (by omega))
  have HA := Lib.hid hA
  have hlen := hA.1
  clear hA
  go_enter Tryz.func3, Tryz.ntmps3
  go_wp2_with fail
  refine HN.out.mono ?_
  rintro e w1 ⟨p0, g0, b0, rfl, hp, hg, hb, hd1, hc1⟩
  have HM := Lib.hid (made_ok w1 n (by omega) (by omega))
  go_wp2_with fail
  refine HM.out.mono ?_
  rintro e w2 ⟨q0, gn0, go0, gd0, rfl, hq, hgn, hgo, hgd, hr2, hc2⟩
  have HD := Lib.hid (show Dd w w2 p0 g0 b0 q0 gn0 go0 gd0 n (fun _ => zsec) (fun _ => none) by
    have := hc1.size
    have l1 := hd1.ltp
    have l2 := hd1.ltg
    have l3 := hd1.ltb
    exact ⟨hd1.kept hc2, hr2, by omega, by omega, hc1.trans hc2⟩)
  have HO := Lib.hid (open_at w2 HD.out.d hn3 (h := 0) (L := []) (opens_zero n))
  clear hp hg hb hd1 hc1 hq hgn hgo hgd hr2 hc2 HN HM
  go_wp2_with fail
  refine HO.out.mono ?_
  rintro e w3 ⟨t0, l0, rfl, ht3, hl3, hc3⟩
  have HR := Lib.hid (ropen_pw HD.out hn3 (opens_zero n) ht3.out hl3.out hc3)
  clear HO ht3 hl3 hc3
  dsimp only
  go_wp2_with fail
  refine HR.out.mono ?_
  rintro e w4 ⟨u0, N0, rfl, HP4, hc4⟩
  clear HR hc4 HD
  dsimp only
  go_wp2_with fail
  go_loopw [5, 7, 9, 10, 11, 12, 13] (fun d kk tt ff mm gg i wr => ∃ (k p g b q gn go gd t u : Nat) (N : List Nat) (S : TS), k ≤ len ∧ k ≤ 60 ∧ d = .pointer (some ⟨p, 0, none⟩) ∧ kk = .pointer (some ⟨q, 0, none⟩) ∧ tt = .pointer (some ⟨t, 0, none⟩) ∧ ff = .int .i64 0 ∧ mm = .pointer (some ⟨u, 0, none⟩) ∧ gg = .int .i64 0 ∧ i = .int .i64 k ∧ Hid (Pw w wr N t p g b u q gn go gd n S S)) (fun _ _ _ _ _ _ i _ => len - (intOf i).toNat)
  case atStart => exact ⟨0, _, _, _, _, _, _, _, _, _, _, _, Nat.zero_le _, by omega, rfl, rfl, rfl, rfl, rfl, rfl, rfl, HP4⟩
  case round =>
    obtain ⟨k, p, g, b, q, gn, go, gd, t, u, N, S, hk, hk60, rfl, rfl, rfl, rfl, rfl, rfl, rfl, HP⟩ := hrel
    by_cases hlt : k < len ∧ k < 60
    · obtain ⟨b0, off, rfl, hb0, hat⟩ := HA.out.2 (by omega)
      obtain ⟨hok, h0⟩ := hat k hlt.1
      have hk0 : (0 : Int) ≤ (k : Int) := by omega
      have hk1 : (k : Int) < (len : Int) := by omega
      have hk2 : (k : Int) < 60 := by omega
      have hrow := HP.out.chg.range h0 (by simp)
      obtain ⟨B, HB⟩ : ∃ B, Hid (A k = B) := ⟨_, Lib.hid rfl⟩
      rw [HB.out] at hrow hok
      have HOK := Lib.hid hok
      have hmeas : len - (k + 1) < len - k := by omega
      have HC0 := Lib.hid HP.out.chg
      clear h0 hat hok
      by_cases hf : fitsL B.xs ∧ B.bs.length ≤ 400
      · have HFI := Lib.hid (show ∀ W, Chg [] wr W → Calls Tryz.prog 9 #[.agg B.cells.toArray] W fun e w' => e = .returned (.bool true) ∧ Chg [] W w' from fun W hW => by
          have h := fits_act W (HOK.out.keep (HC0.out.trans hW))
          rw [decide_eq_true hf] at h
          exact h)
        have HF := Lib.hid hf
        clear hf
        go_wp2_with (first
          | (refine wpList_loadA rfl _ rfl b0 (off + k * 5) rfl B hrow ?_)
          | (refine wpList_allocA rfl rfl ?_)
          | (refine wpList_layA rfl _ _ rfl B rfl rfl rfl ?_; intro wB hrB hcB)
          | (refine wpList_loadA rfl _ rfl wr.heap.size 0 rfl B hrB ?_)
          | (go_at_call 9; (with_reducible refine (HFI.out _ hcB).mono ?_); rintro e w5 ⟨rfl, hc5⟩; have hr5 := hc5.range hrB (by simp))
          | (refine wpList_loadA rfl _ rfl wr.heap.size 0 rfl B hr5 ?_)
          | fail)
        have HP5 := Lib.hid (HP.out.kept (hcB.trans hc5))
        have HBO := Lib.hid (both_any HP5.out HOK.out HF.out)
        have hxN := HP.out.notin (Nat.le_refl _)
        have HX := Lib.hid hxN
        have HR5 := Lib.hid hr5
        clear hrow hrB hcB hc5 hr5 HFI hxN
        refine HBO.out.mono ?_
        rintro e wE ⟨rfl, ⟨N6, S6, HP6⟩, HC6⟩
        have HRE := Lib.hid (HC6.out.range HR5.out HX.out)
        obtain ⟨cE0, cE1, cE2, cE4⟩ := act_cells HRE.out
        obtain ⟨x, HXX⟩ : ∃ x, Hid (wr.heap.size = x) := ⟨_, Lib.hid rfl⟩
        have HLX := Lib.hid (show x < wE.heap.size from World.block_lt_of_cell? wE ⟨x, 0, none⟩ (by rw [← HXX.out]; exact cE0))
        clear HBO HR5
        by_cases e5 : B.kd = 5
        · rw [e5] at cE0
          have HD6 := Lib.hid HP6.out.dd
          have hok := HOK.out.keep HP6.out.chg
          have HCr := Lib.hid (crash_ok wE HD6.out.d B.ak B.ks B.ck wE.heap.size hok.ak (Nat.le_refl _) hok.ks)
          have HC4 := Lib.hid cE4
          clear hok cE1 cE2 e5
          go_wp2_with fail
          refine HCr.out.mono ?_
          rintro e w8 ⟨p8, g8, b8, rfl, hp8, hg8, hb8, hx8, hc8⟩
          have hok := HOK.out.keep (HP6.out.chg.trans hc8)
          have HRC := Lib.hid (rcrash_ok w8 (HD6.out.r.kept hc8) B.ak B.ks B.ck w8.heap.size hok.ak (Nat.le_refl _) hok.ks (fun i => HD6.out.clen i))
          have c84 := hc8.cell HC4.out (by simp)
          have HD8 := Lib.hid (And.intro hp8 (And.intro hg8 (And.intro hb8 (And.intro hx8 hc8))))
          clear hok hp8 hg8 hb8 hx8 hc8 HCr cE4 cE0
          go_wp2_with fail
          refine HRC.out.mono ?_
          rintro e w9 ⟨q8, gn8, go8, gd8, rfl, hq8, hgn8, hgo8, hgd8, hr8, hc9⟩
          have HD9 := Lib.hid (HD6.out.crash HD8.out.1 HD8.out.2.1 HD8.out.2.2.1 HD8.out.2.2.2.1 HD8.out.2.2.2.2 (Chg.refl [] w8) hq8 hgn8 hgo8 hgd8 hr8 hc9)
          clear hq8 hgn8 hgo8 hgd8 hr8 hc9 HRC HD8 c84
          obtain ⟨F2, HF2⟩ : ∃ F2, Hid (crashF S6.F S6.m B.ks = F2) := ⟨_, Lib.hid rfl⟩
          rw [HF2.out] at HD9
          obtain ⟨m2, HM2⟩ : ∃ m2 : Nat → Option Sec, Hid ((fun _ => none) = m2) := ⟨_, Lib.hid rfl⟩
          rw [HM2.out] at HD9
          by_cases ho : ∃ h L, Opens n (now F2 m2) h L
          · obtain ⟨hh, LL, o⟩ := ho
            have HO := Lib.hid (open_at w9 HD9.out.d hn3 o)
            have HOO := Lib.hid o
            clear o
            go_wp2_with fail
            refine HO.out.mono ?_
            rintro e w12 ⟨t2, l2, rfl, ht2, hl2, hc12⟩
            have HR := Lib.hid (ropen_pw HD9.out hn3 HOO.out ht2.out hl2.out hc12)
            clear HO ht2 hl2 hc12
            dsimp only
            go_wp2_with fail
            refine HR.out.mono ?_
            rintro e w13 ⟨u2, N2, rfl, HPX, hc13⟩
            clear HR hc13
            dsimp only
            have HSE := Lib.hid (sectors_ok _ HPX.out.tz.dsk HPX.out.rt.dk)
            go_wp2_with fail
            refine HSE.out.mono ?_
            rintro e wS ⟨rfl, hcS⟩
            have HPS := Lib.hid (HPX.out.kept hcS)
            have HAL := Lib.hid (alike_ok HPS.out.tz HPS.out.rt)
            clear HSE hcS
            go_wp2_with fail
            refine HAL.out.mono ?_
            rintro e wT ⟨rfl, hcT⟩
            have HPT := Lib.hid (HPS.out.kept hcT)
            clear HAL hcT HPS
            go_wp2_with fail
            go_roundw
            case rel => exact ⟨k + 1, _, _, _, _, _, _, _, _, _, _, _, by omega, by omega, rfl, rfl, rfl, rfl, rfl, rfl, by go_num, HPT⟩
            case measure => simp [intOf]; omega
          · have HNO := Lib.hid (show ∀ h L, ¬ Opens n (now F2 m2) h L from fun h L o => ho ⟨h, L, o⟩)
            have HO := Lib.hid (topen_no HD9.out hn3 HNO.out)
            clear ho
            go_wp2_with fail
            refine HO.out.mono ?_
            rintro e w12 ⟨rfl, hc12⟩
            have HD12 := Lib.hid (HD9.out.kept hc12)
            have HR := Lib.hid (ropen_no HD12.out hn3 HNO.out)
            clear HO hc12
            dsimp only
            go_wp2_with fail
            refine HR.out.mono ?_
            rintro e w13 ⟨rfl, hc13⟩
            have HC13 := Lib.hid (HD12.out.chg.trans hc13)
            clear HR hc13
            dsimp only
            go_wp2_with (first | (go_at_call 4; refine (alive_any _).mono ?_; rintro e wz ⟨rfl, hcz⟩) | fail)
            go_ret
            exact ⟨rfl, HC13.out.trans hcz⟩
        · by_cases e6 : B.kd = 6
          · rw [e6] at cE0
            rw [HXX.out] at cE0 cE1 cE2
            have HD6 := Lib.hid HP6.out.dd
            have HFi := Lib.hid (show ∀ W, Chg [] wE W → Calls Tryz.prog 14 #[.slice B.ab B.bs.length B.cb] W fun e w' => e = .returned (sv (fillS B.bs)) ∧ Chg [] W w' from fun W hW =>
              fill_any W B.ab B.bs B.cb W.heap.size (HOK.out.keep (HP6.out.chg.trans hW)).ab (Nat.le_refl _))
            have HWr := Lib.hid (show ∀ W, Chg [] wE W → Calls Tryz.prog 13 #[.pointer (some ⟨p, 0, none⟩), .int .i64 B.i, sv (fillS B.bs)] W fun e w' => e = .returned (.int .i64 (werr n B.i)) ∧ Dsk w' p g b n S6.F (updI n S6.m B.i (fillS B.bs)) ∧ Chg [b] W w' from fun W hW =>
              write_any W (HD6.out.d.kept hW) B.i (fillS B.bs) (fillS_len _))
            have HRFi := Lib.hid (show ∀ W, Chg [b] wE W → Calls Tryz.prog 16 #[.slice B.ab B.bs.length B.cb] W fun e w' => e = .returned (sv (fillS B.bs)) ∧ Chg [] W w' from fun W hW => by
              have hl := HD6.out.low.2.1
              have hW2 : Chg [] w W := HP6.out.chg.then hW (by simp; omega)
              exact rfill_any W B.ab B.bs B.cb W.heap.size (HOK.out.keep hW2).ab (Nat.le_refl _))
            have HRWr := Lib.hid (show ∀ W, Chg [b] wE W → Calls Tryz.prog 15 #[.pointer (some ⟨q, 0, none⟩), .int .i64 B.i, sv (fillS B.bs)] W fun e w' => e = .returned (.int .i64 (werr n B.i)) ∧ Hid (Rdk w' q gn go gd n (now S6.F (updI n S6.m B.i (fillS B.bs))) S6.F (fun j => (updI n S6.m B.i (fillS B.bs) j).isSome)) ∧ Chg [gn, gd] W w' from fun W hW => by
              have hs := HD6.out.sep
              exact rwrite_any W (HD6.out.r.keep hW (by simp; omega) (by simp; omega) (by simp; omega) (by simp; omega)) B.i (fillS B.bs) (fillS_len _))
            have HXB := Lib.hid (show x ∉ [b] from fun hm => by
              simp only [List.mem_cons, List.mem_nil_iff, or_false] at hm
              have h1 := HP5.out.ins.2
              have h2 := HP.out.low b h1
              have := HXX.out
              omega)
            have HXG := Lib.hid (show x ∉ [gn, gd] from fun hm => by
              simp only [List.mem_cons, List.mem_nil_iff, or_false] at hm
              have h1 := HX.out
              rw [HXX.out] at h1
              apply h1
              rcases hm with rfl | rfl <;> simp)
            obtain ⟨E, HE⟩ : ∃ E, Hid (werr n B.i = E) := ⟨_, Lib.hid rfl⟩
            rw [HE.out] at HWr HRWr
            obtain ⟨bi, HBI⟩ : ∃ i, Hid (B.i = i) := ⟨_, Lib.hid rfl⟩
            rw [HBI.out] at HWr HRWr cE1
            obtain ⟨lb, HLB⟩ : ∃ i, Hid (B.bs.length = i) := ⟨_, Lib.hid rfl⟩
            rw [HLB.out] at HFi HRFi cE2
            have hst : (fun W : World => W.cell? ⟨x, 1, none⟩ = some (.int .i64 bi) ∧ W.cell? ⟨x, 2, none⟩ = some (.slice B.ab lb B.cb)) wE.drew := ⟨cE1, cE2⟩
            clear cE1 cE2 cE4 e6 e5
            simp only [HXX.out]
            go_wp2_with fail
            refine wp_region_held_drew (S := (fun W : World => W.cell? ⟨x, 1, none⟩ = some (.int .i64 bi) ∧ W.cell? ⟨x, 2, none⟩ = some (.slice B.ab lb B.cb))) (by kernel_rfl) hst (fun hHeld => ?_)
            refine wpAnyH_take (i := 0) (v := ?_) rfl (by kernel_rfl) (by kernel_rfl) (by kernel_rfl) (fun _ _ _ h => h) (Or.inl ⟨by kernel_rfl, ?_⟩) hHeld ?_
            rotate_left
            · (intro w hSw; first | (go_simp; done) | (go_simp; with_reducible rfl))
            (try simp only [Act.put, List.getElem_toArray, List.getElem_cons_succ, List.getElem_cons_zero, List.setIfInBounds_toArray, List.set_cons_zero, List.set_cons_succ])
            refine wpAnyH_take (i := 1) (v := ?_) rfl (by kernel_rfl) (by kernel_rfl) (by kernel_rfl) (fun _ _ _ h => h) (Or.inl ⟨by kernel_rfl, ?_⟩) hHeld ?_
            rotate_left
            · (intro w hSw; first | (go_simp; done) | (go_simp; with_reducible rfl))
            (try simp only [Act.put, List.getElem_toArray, List.getElem_cons_succ, List.getElem_cons_zero, List.setIfInBounds_toArray, List.set_cons_zero, List.set_cons_succ])
            refine wpAnyH_take (i := 2) (v := ?_) rfl (by kernel_rfl) (by kernel_rfl) (by kernel_rfl) (fun _ _ _ h => h) (Or.inl ⟨by kernel_rfl, ?_⟩) hHeld ?_
            rotate_left
            · (intro w hSw; first | (go_simp; done) | (go_simp; with_reducible rfl))
            (try simp only [Act.put, List.getElem_toArray, List.getElem_cons_succ, List.getElem_cons_zero, List.setIfInBounds_toArray, List.set_cons_zero, List.set_cons_succ])
            refine wpAnyH_take (i := 3) (v := ?_) rfl (by kernel_rfl) (by kernel_rfl) (by kernel_rfl) (fun _ _ _ h => h) (Or.inl ⟨by kernel_rfl, ?_⟩) hHeld ?_
            rotate_left
            · (intro w hSw; first | (go_simp; done) | (go_simp; with_reducible rfl))
            (try simp only [Act.put, List.getElem_toArray, List.getElem_cons_succ, List.getElem_cons_zero, List.setIfInBounds_toArray, List.set_cons_zero, List.set_cons_succ])
            refine wpAnyH_take (i := 4) (v := ?_) rfl (by kernel_rfl) (by kernel_rfl) (by kernel_rfl) (fun _ _ _ h => h) (Or.inl ⟨by kernel_rfl, ?_⟩) hHeld ?_
            rotate_left
            · (intro w hSw; first | (go_simp; done) | (go_simp; with_reducible rfl))
            (try simp only [Act.put, List.getElem_toArray, List.getElem_cons_succ, List.getElem_cons_zero, List.setIfInBounds_toArray, List.set_cons_zero, List.set_cons_succ])
            refine wpAnyH_ready (rs := [5]) (by kernel_rfl) (by simp) (AllReadyH.cons rfl (fun K hK => ?_) AllReadyH.nil)
            have hH := hHeld
            (go_simp; go_at_call 14; refine (HFi.out _ (Chg.refl [] wE).drew).mono ?_; rintro e w8 ⟨rfl, hc8⟩)
            refine hK.out _ _ (by exact ⟨hc8.cell hH.1 (by simp), hc8.cell hH.2 (by simp)⟩) (fun hHq1 => ?_)
            clear hK K hH 
            (try simp only [Act.put, List.getElem_toArray, List.getElem_cons_succ, List.getElem_cons_zero, List.setIfInBounds_toArray, List.set_cons_zero, List.set_cons_succ])
            refine wpAnyH_ready (rs := [6]) (by kernel_rfl) (by simp) (AllReadyH.cons rfl (fun K hK => ?_) AllReadyH.nil)
            have hH := hHq1
            (go_simp; go_at_call 13; refine (HWr.out _ ((Chg.refl [] wE).drew.trans hc8)).mono ?_; rintro e w9 ⟨rfl, hd9, hc9⟩)
            refine hK.out _ _ (by exact ⟨hc9.cell hH.1 HXB.out, hc9.cell hH.2 HXB.out⟩) (fun hHq2 => ?_)
            clear hK K hH hHq1
            (try simp only [Act.put, List.getElem_toArray, List.getElem_cons_succ, List.getElem_cons_zero, List.setIfInBounds_toArray, List.set_cons_zero, List.set_cons_succ])
            refine wpAnyH_done (by kernel_rfl) ?_ _
            have hEnd := hHq2
            have HD9 := Lib.hid hd9
            have HC9 := Lib.hid ((((Chg.refl [] wE).drew.trans hc8).mono (l' := [b]) (by simp)).trans hc9)
            have hst2 : (fun W : World => W.cell? ⟨x, 1, none⟩ = some (.int .i64 bi) ∧ W.cell? ⟨x, 2, none⟩ = some (.slice B.ab lb B.cb)) w9.drew := ⟨HC9.out.drew.cell hst.1 HXB.out, HC9.out.drew.cell hst.2 HXB.out⟩
            clear hEnd hHeld hst hd9 hc8 hc9 HFi HWr
            go_wp2_with fail
            refine wp_region_held_drew (S := (fun W : World => W.cell? ⟨x, 1, none⟩ = some (.int .i64 bi) ∧ W.cell? ⟨x, 2, none⟩ = some (.slice B.ab lb B.cb))) (by kernel_rfl) hst2 (fun hHeld => ?_)
            refine wpAnyH_take (i := 0) (v := ?_) rfl (by kernel_rfl) (by kernel_rfl) (by kernel_rfl) (fun _ _ _ h => h) (Or.inl ⟨by kernel_rfl, ?_⟩) hHeld ?_
            rotate_left
            · (intro w hSw; first | (go_simp; done) | (go_simp; with_reducible rfl))
            (try simp only [Act.put, List.getElem_toArray, List.getElem_cons_succ, List.getElem_cons_zero, List.setIfInBounds_toArray, List.set_cons_zero, List.set_cons_succ])
            refine wpAnyH_take (i := 1) (v := ?_) rfl (by kernel_rfl) (by kernel_rfl) (by kernel_rfl) (fun _ _ _ h => h) (Or.inl ⟨by kernel_rfl, ?_⟩) hHeld ?_
            rotate_left
            · (intro w hSw; first | (go_simp; done) | (go_simp; with_reducible rfl))
            (try simp only [Act.put, List.getElem_toArray, List.getElem_cons_succ, List.getElem_cons_zero, List.setIfInBounds_toArray, List.set_cons_zero, List.set_cons_succ])
            refine wpAnyH_take (i := 2) (v := ?_) rfl (by kernel_rfl) (by kernel_rfl) (by kernel_rfl) (fun _ _ _ h => h) (Or.inl ⟨by kernel_rfl, ?_⟩) hHeld ?_
            rotate_left
            · (intro w hSw; first | (go_simp; done) | (go_simp; with_reducible rfl))
            (try simp only [Act.put, List.getElem_toArray, List.getElem_cons_succ, List.getElem_cons_zero, List.setIfInBounds_toArray, List.set_cons_zero, List.set_cons_succ])
            refine wpAnyH_take (i := 3) (v := ?_) rfl (by kernel_rfl) (by kernel_rfl) (by kernel_rfl) (fun _ _ _ h => h) (Or.inl ⟨by kernel_rfl, ?_⟩) hHeld ?_
            rotate_left
            · (intro w hSw; first | (go_simp; done) | (go_simp; with_reducible rfl))
            (try simp only [Act.put, List.getElem_toArray, List.getElem_cons_succ, List.getElem_cons_zero, List.setIfInBounds_toArray, List.set_cons_zero, List.set_cons_succ])
            refine wpAnyH_take (i := 4) (v := ?_) rfl (by kernel_rfl) (by kernel_rfl) (by kernel_rfl) (fun _ _ _ h => h) (Or.inl ⟨by kernel_rfl, ?_⟩) hHeld ?_
            rotate_left
            · (intro w hSw; first | (go_simp; done) | (go_simp; with_reducible rfl))
            (try simp only [Act.put, List.getElem_toArray, List.getElem_cons_succ, List.getElem_cons_zero, List.setIfInBounds_toArray, List.set_cons_zero, List.set_cons_succ])
            refine wpAnyH_ready (rs := [5]) (by kernel_rfl) (by simp) (AllReadyH.cons rfl (fun K hK => ?_) AllReadyH.nil)
            have hH := hHeld
            (go_simp; go_at_call 16; refine (HRFi.out _ HC9.out.drew).mono ?_; rintro e w10 ⟨rfl, hc10⟩)
            refine hK.out _ _ (by exact ⟨hc10.cell hH.1 (by simp), hc10.cell hH.2 (by simp)⟩) (fun hHq1 => ?_)
            clear hK K hH 
            (try simp only [Act.put, List.getElem_toArray, List.getElem_cons_succ, List.getElem_cons_zero, List.setIfInBounds_toArray, List.set_cons_zero, List.set_cons_succ])
            refine wpAnyH_ready (rs := [6]) (by kernel_rfl) (by simp) (AllReadyH.cons rfl (fun K hK => ?_) AllReadyH.nil)
            have hH := hHq1
            (go_simp; go_at_call 15; refine (HRWr.out _ (HC9.out.drew.trans (hc10.mono (by simp)))).mono ?_; rintro e w11 ⟨rfl, hr11, hc11⟩)
            refine hK.out _ _ (by exact ⟨hc11.cell hH.1 HXG.out, hc11.cell hH.2 HXG.out⟩) (fun hHq2 => ?_)
            clear hK K hH hHq1
            (try simp only [Act.put, List.getElem_toArray, List.getElem_cons_succ, List.getElem_cons_zero, List.setIfInBounds_toArray, List.set_cons_zero, List.set_cons_succ])
            refine wpAnyH_done (by kernel_rfl) ?_ _
            have hEnd := hHq2
            have HD11 := Lib.hid (HD6.out.write HD9.out HC9.out ((Chg.refl [] w9).drew.trans hc10) hr11.out hc11)
            clear hEnd hHeld hst2 hr11 hc10 hc11 HRFi HRWr HD9 HC9
            obtain ⟨F2, HF2⟩ : ∃ F2, Hid (S6.F = F2) := ⟨_, Lib.hid rfl⟩
            obtain ⟨m2, HM2⟩ : ∃ m2, Hid (updI n S6.m bi (fillS B.bs) = m2) := ⟨_, Lib.hid rfl⟩
            rw [HF2.out, HM2.out] at HD11
            by_cases ho : ∃ h L, Opens n (now F2 m2) h L
            · obtain ⟨hh, LL, o⟩ := ho
              have HO := Lib.hid (open_at w11 HD11.out.d hn3 o)
              have HOO := Lib.hid o
              clear o
              go_wp2_with fail
              refine HO.out.mono ?_
              rintro e w12 ⟨t2, l2, rfl, ht2, hl2, hc12⟩
              have HR := Lib.hid (ropen_pw HD11.out hn3 HOO.out ht2.out hl2.out hc12)
              clear HO ht2 hl2 hc12
              dsimp only
              go_wp2_with fail
              refine HR.out.mono ?_
              rintro e w13 ⟨u2, N2, rfl, HPX, hc13⟩
              clear HR hc13
              dsimp only
              have HSE := Lib.hid (sectors_ok _ HPX.out.tz.dsk HPX.out.rt.dk)
              go_wp2_with fail
              refine HSE.out.mono ?_
              rintro e wS ⟨rfl, hcS⟩
              have HPS := Lib.hid (HPX.out.kept hcS)
              have HAL := Lib.hid (alike_ok HPS.out.tz HPS.out.rt)
              clear HSE hcS
              go_wp2_with fail
              refine HAL.out.mono ?_
              rintro e wT ⟨rfl, hcT⟩
              have HPT := Lib.hid (HPS.out.kept hcT)
              clear HAL hcT HPS
              go_wp2_with fail
              go_roundw
              case rel => exact ⟨k + 1, _, _, _, _, _, _, _, _, _, _, _, by omega, by omega, rfl, rfl, rfl, rfl, rfl, rfl, by go_num, HPT⟩
              case measure => simp [intOf]; omega
            · have HNO := Lib.hid (show ∀ h L, ¬ Opens n (now F2 m2) h L from fun h L o => ho ⟨h, L, o⟩)
              have HO := Lib.hid (topen_no HD11.out hn3 HNO.out)
              clear ho
              go_wp2_with fail
              refine HO.out.mono ?_
              rintro e w12 ⟨rfl, hc12⟩
              have HD12 := Lib.hid (HD11.out.kept hc12)
              have HR := Lib.hid (ropen_no HD12.out hn3 HNO.out)
              clear HO hc12
              dsimp only
              go_wp2_with fail
              refine HR.out.mono ?_
              rintro e w13 ⟨rfl, hc13⟩
              have HC13 := Lib.hid (HD12.out.chg.trans hc13)
              clear HR hc13
              dsimp only
              go_wp2_with (first | (go_at_call 4; refine (alive_any _).mono ?_; rintro e wz ⟨rfl, hcz⟩) | fail)
              go_ret
              exact ⟨rfl, HC13.out.trans hcz⟩
          · have q5 : (B.kd == 5) = false := beq_eq_false_iff_ne.2 e5
            have q6 : (B.kd == 6) = false := beq_eq_false_iff_ne.2 e6
            obtain ⟨kd, HKD⟩ : ∃ x, Hid (B.kd = x) := ⟨_, Lib.hid rfl⟩
            rw [HKD.out] at q5 q6 cE0
            clear e5 e6 cE1 cE2 cE4
            have HSE := Lib.hid (sectors_ok _ HP6.out.tz.dsk HP6.out.rt.dk)
            go_wp2_with fail
            refine HSE.out.mono ?_
            rintro e wS ⟨rfl, hcS⟩
            have HPS := Lib.hid (HP6.out.kept hcS)
            have HAL := Lib.hid (alike_ok HPS.out.tz HPS.out.rt)
            clear HSE hcS
            go_wp2_with fail
            refine HAL.out.mono ?_
            rintro e wT ⟨rfl, hcT⟩
            have HPT := Lib.hid (HPS.out.kept hcT)
            clear HAL hcT HPS
            go_wp2_with fail
            go_roundw
            case rel => exact ⟨k + 1, _, _, _, _, _, _, _, _, _, _, _, by omega, by omega, rfl, rfl, rfl, rfl, rfl, rfl, by go_num, HPT⟩
            case measure => simp [intOf]; omega
      · have HFI := Lib.hid (show ∀ W, Chg [] wr W → Calls Tryz.prog 9 #[.agg B.cells.toArray] W fun e w' => e = .returned (.bool false) ∧ Chg [] W w' from fun W hW => by
          have h := fits_act W (HOK.out.keep (HC0.out.trans hW))
          rw [decide_eq_false hf] at h
          exact h)
        clear hf
        go_wp2_with (first
          | (refine wpList_loadA rfl _ rfl b0 (off + k * 5) rfl B hrow ?_)
          | (refine wpList_allocA rfl rfl ?_)
          | (refine wpList_layA rfl _ _ rfl B rfl rfl rfl ?_; intro wB hrB hcB)
          | (refine wpList_loadA rfl _ rfl wr.heap.size 0 rfl B hrB ?_)
          | (go_at_call 9; (with_reducible refine (HFI.out _ hcB).mono ?_); rintro e w5 ⟨rfl, hc5⟩)
          | fail)
        have HP5 := Lib.hid (HP.out.kept (hcB.trans hc5))
        go_roundw
        case rel => exact ⟨k + 1, _, _, _, _, _, _, _, _, _, _, _, by omega, by omega, rfl, rfl, rfl, rfl, rfl, rfl, by go_num, HP5⟩
        case measure => simp [intOf]; omega
    · have hcase := play_exit hlt
      have HR1 := Lib.hid (readno_Z HP.out.tz (-1) (.inl (by omega)))
      clear hlt
      rcases hcase with hq1 | ⟨hq1, hq2⟩
      all_goals
        go_wp2_with fail
        refine HR1.out.mono ?_
        rintro e w5 ⟨rfl, hc5⟩
        have HP5 := Lib.hid (HP.out.kept hc5)
        have HL := Lib.hid (len_Z HP5.out.tz)
        dsimp only
        clear hc5 HR1
        go_wp2_with fail
        refine HL.out.mono ?_
        rintro e w6 ⟨rfl, hc6⟩
        have HP6 := Lib.hid (HP5.out.kept hc6)
        have HR2 := Lib.hid (readno_Z HP6.out.tz _ (.inr (Int.le_refl _)))
        clear hc6 HL
        go_wp2_with fail
        refine HR2.out.mono ?_
        rintro e w7 ⟨rfl, hc7⟩
        have HC7 := Lib.hid (HP6.out.chg.trans hc7)
        clear hc7 HR2
        dsimp only
        go_wp2_with (first | (go_at_call 4; refine (alive_any _).mono ?_; rintro e wz ⟨rfl, hcz⟩) | fail)
        go_ret
        exact ⟨rfl, HC7.out.trans hcz⟩
theorem tapePlays_row (w : World) {z : Int} {a : Option Addr} {len cap : Nat} {A : Nat → ActT} (h0 : (Lit.int .i64 z).wf = true) (hA : IsActs w a len A) :
    Calls Tryz.prog 3 #[.int .i64 z, .slice a len cap] w fun e w' => e = .returned (.bool true) ∧ Below w.heap.size w w' := by
  refine Calls.mono (R := fun e w' => e = .returned (.bool true) ∧ Chg [] w w') ?_ fun e w' h => ⟨h.1, h.2.low⟩
  by_cases h60 : 60 < z
  · exact tapePlays_out w z a len cap h60
  by_cases h1 : z < 1
  · exact tapePlays_none w z a len cap h1
  obtain ⟨n, rfl⟩ : ∃ n : Nat, z = (n : Int) := ⟨z.toNat, by omega⟩
  by_cases h3 : n < 3
  · exact tapePlays_few w n a len cap (by omega) h3
  exact tapePlays_main w n a len cap A hA (by omega) (by omega)
end Go.Proofs.YtdiemejdbakffaaGreat
