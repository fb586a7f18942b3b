/-
  The statement DiskPlays, walked. No condition but the ranges of the arguments.
-/
import Derived.Test.YtfgniggppafelaaPl
import Derived.Deep.CutBlock
import Derived.Deep.CutRange
namespace Go.Proofs.Ytfgniggppafelaa
open Go.RowKit Go.Maps Go.Shelf
set_option linter.unusedVariables false
set_option linter.unusedSimpArgs false
attribute [local go_sem ↓] Go.wp_at_zero Go.wp_at_succ

theorem play_exit {k len : Nat} (h : ¬ (k < len ∧ k < 100)) : decide (k < len) = false ∨ (decide (k < len) = true ∧ decide ((k : Int) < 100) = false) := by
  by_cases h2 : k < len
  · exact .inr ⟨by simp; omega, by simp; omega⟩
  · exact .inl (by simp; omega)
set_option maxHeartbeats 8000000 in
set_option maxRecDepth 100000 in
theorem diskPlays_walk (w : World) (s : Int) (hs : -9223372036854775808 ≤ s ∧ s ≤ 9223372036854775807) (a : Option Addr) (len cap : Nat) (A : Nat → ActD) (hA : IsActs w a len A) :
    Calls Try.prog 3 #[.int .i64 s, .slice a len cap] w fun e w' => e = .returned (.bool true) ∧ Below w.heap.size w w' := by
  by_cases hr : s < 1 ∨ 1024 < s
  · have HN := Lib.hid (new_no w s hr)
    have HM := Lib.hid (made_no w s hr)
    clear hA hr
    go_enter Try.func3, Try.ntmps3
    go_wp2_with (first
      | (go_at_call 8; refine HN.out.mono ?_; rintro e w' ⟨rfl, rfl⟩)
      | (go_at_call 9; refine HM.out.mono ?_; rintro e w' ⟨rfl, rfl⟩)
      | (go_at_call 10; refine (alive_any _).mono ?_; rintro e w1 ⟨rfl, hc1⟩)
      | fail)
    go_ret
    exact ⟨rfl, hc1.low⟩
  · obtain ⟨n, rfl⟩ := Int.eq_ofNat_of_zero_le (show 0 ≤ s by omega)
    have hn1 : 1 ≤ n := by omega
    have hn2 : n ≤ 1024 := by omega
    have HN := Lib.hid (new_ex w n hn1 hn2)
    have HA := Lib.hid hA
    have hlen := hA.1
    clear hr hs hA
    go_enter Try.func3, Try.ntmps3
    go_wp2_with (first
      | (go_at_call 8; refine HN.out.mono ?_; rintro e w1 ⟨p0, g0, b0, rfl, hp0, hg0, hb0, hd1, hc1⟩)
      | fail)
    have HM := Lib.hid (made_ok w1 n hn1 hn2)
    go_wp2_with (first
      | (go_at_call 9; refine HM.out.mono ?_; rintro e w2 ⟨q0, gn0, go0, gd0, rfl, hq0, hgn0, hgo0, hgd0, hr2, hc2⟩)
      | fail)
    have HP := Lib.hid (show Pl w w2 p0 g0 b0 q0 gn0 go0 gd0 n (fun _ => zsec) (fun _ => none) by
      have := hc1.size
      have l1 := hd1.ltp
      have l2 := hd1.ltg
      have l3 := hd1.ltb
      exact ⟨hd1.kept hc2, hr2, by omega, by omega, hc1.trans hc2⟩)
    clear hd1 hr2 hc1 hc2 hp0 hg0 hb0 hq0 hgn0 hgo0 hgd0 HN HM
    go_wp2_with fail
    go_loopw [5, 7, 9] (fun d q' i wr => ∃ (k p g b q gn go gd : Nat) (F : Nat → Sec) (m : Nat → Option Sec), k ≤ len ∧ k ≤ 100 ∧ d = .pointer (some ⟨p, 0, none⟩) ∧ q' = .pointer (some ⟨q, 0, none⟩) ∧ i = .int .i64 k ∧ Pl w wr p g b q gn go gd n F m) (fun _ _ i _ => len - (intOf i).toNat)
    case atStart => exact ⟨0, _, _, _, _, _, _, _, _, _, Nat.zero_le _, by omega, rfl, rfl, rfl, HP.out⟩
    case round =>
      obtain ⟨k, p, g, b, q, gn, go, gd, F, m, hk, hk100, rfl, rfl, rfl, hP⟩ := hrel
      by_cases hlt : k < len ∧ k < 100
      · obtain ⟨b0, off, rfl, hb0, hat⟩ := HA.out.at_ (by omega)
        obtain ⟨hok, h0⟩ := hat wr hP.chg.low k hlt.1
        have hk0 : (0 : Int) ≤ (k : Int) := by omega
        have hk1 : (k : Int) < (len : Int) := by omega
        have hk2 : (k : Int) < 100 := by omega
        have hbl := hok.bs
        have hrow := act_row h0
        have HAT := Lib.hid (show ∀ W, Below w.heap.size w W → ActOk W (A k) from fun W hW => (hat W hW k hlt.1).1)
        obtain ⟨B, HB⟩ : ∃ B, Hid (A k = B) := ⟨_, Lib.hid rfl⟩
        have HAT2 := HAT.out
        rw [HB.out] at hrow hbl HAT2
        have HAO := Lib.hid HAT2
        have hmeas : len - (k + 1) < len - k := by omega
        have HPr := Lib.hid hP
        clear h0 hat hok HAT HAT2 hP
        have hcont : (decide ((100 : Int) < (B.bs.length : Int)) = true) ∨ (decide ((100 : Int) < (B.bs.length : Int)) = false ∧ decide (0 < k) = true ∧ decide ((60 : Int) < (n : Int)) = true) ∨ (decide ((100 : Int) < (B.bs.length : Int)) = false ∧ decide (0 < k) = false) ∨ (decide ((100 : Int) < (B.bs.length : Int)) = false ∧ decide (0 < k) = true ∧ decide ((60 : Int) < (n : Int)) = false) := by
          by_cases h1 : (100 : Int) < (B.bs.length : Int)
          · exact .inl (by simpa using h1)
          · by_cases h2 : 0 < k
            · by_cases h3 : (60 : Int) < (n : Int)
              · exact .inr (.inl ⟨by simpa using h1, by simpa using h2, by simpa using h3⟩)
              · exact .inr (.inr (.inr ⟨by simpa using h1, by simpa using h2, by simpa using h3⟩))
            · exact .inr (.inr (.inl ⟨by simpa using h1, by simpa using h2⟩))
        rcases hcont with hx | ⟨hx, hy, hz⟩ | ⟨hx, hy⟩ | ⟨hx, hy, hz⟩
        case' inl =>
          go_wp2_with (first
            | (refine wpList_loadA rfl _ rfl b0 (off + k * 4) rfl B hrow ?_)
            | (refine wpList_allocA rfl rfl ?_)
            | (refine wpList_layA rfl _ _ rfl B rfl rfl rfl ?_; intro wB hrB hcB; obtain ⟨hB0, hB1, hB2, hB3⟩ := act_cells hrB)
            | fail)
          go_roundw
          case rel => exact ⟨k + 1, p, g, b, q, gn, go, gd, F, m, by omega, by omega, rfl, rfl, by go_num, HPr.out.kept hcB⟩
          case measure => simp [intOf]; omega
        case' inr.inl =>
          go_wp2_with (first
            | (refine wpList_loadA rfl _ rfl b0 (off + k * 4) rfl B hrow ?_)
            | (refine wpList_allocA rfl rfl ?_)
            | (refine wpList_layA rfl _ _ rfl B rfl rfl rfl ?_; intro wB hrB hcB; obtain ⟨hB0, hB1, hB2, hB3⟩ := act_cells hrB)
            | fail)
          go_roundw
          case rel => exact ⟨k + 1, p, g, b, q, gn, go, gd, F, m, by omega, by omega, rfl, rfl, by go_num, HPr.out.kept hcB⟩
          case measure => simp [intOf]; omega
        all_goals
          obtain ⟨kd, HKD⟩ : ∃ x, Hid (B.kd = x) := ⟨_, Lib.hid rfl⟩
          obtain ⟨bi, HBI⟩ : ∃ x, Hid (B.i = x) := ⟨_, Lib.hid rfl⟩
          go_upto_block 2 with (first
            | (refine wpList_loadA rfl _ rfl b0 (off + k * 4) rfl B hrow ?_)
            | (refine wpList_allocA rfl rfl ?_)
            | (refine wpList_layA rfl _ _ rfl B rfl rfl rfl ?_; intro wB hrB hcB; obtain ⟨hB0, hB1, hB2, hB3⟩ := act_cells hrB; rw [HKD.out] at hB0; rw [HBI.out] at hB1)
            | fail)
          have HPB := Lib.hid (HPr.out.kept hcB)
          have hszB := hcB.size
          have hbd : decide ((B.bs.length : Int) ≤ 100) = true := by simp at hx ⊢; omega
          clear hrow hrB hB0
          go_cut [5, 7, 11, 12] from 74 to 111 (fun d q' good x wx => ∃ (p2 g2 b2 q2 gn2 go2 gd2 : Nat) (F2 : Nat → Sec) (m2 : Nat → Option Sec), d = .pointer (some ⟨p2, 0, none⟩) ∧ q' = .pointer (some ⟨q2, 0, none⟩) ∧ good = .bool true ∧ Pl w wx p2 g2 b2 q2 gn2 go2 gd2 n F2 m2 ∧ wx.cell? ⟨wr.heap.size, 1, none⟩ = some (.int .i64 bi))
          case first =>
            by_cases e1 : kd = 1
            · subst e1
              have hst : wB.drew.cell? ⟨wr.heap.size, 1, none⟩ = some (.int .i64 bi) ∧ wB.drew.cell? ⟨wr.heap.size, 2, none⟩ = some (.slice B.ab B.bs.length B.cb) := ⟨hB1, hB2⟩
              have hPB := HPB.out
              obtain ⟨l1, l2, l3, l4, l5, l6, l7⟩ := hPB.low
              obtain ⟨⟨s1, s2, s3, s4⟩, ⟨s5, s6, s7, s8⟩, ⟨s9, s10, s11, s12⟩⟩ := hPB.sep
              have hbw := HPr.out.d.ltb
              have hgnw := HPr.out.r.ltn
              have hgdw := HPr.out.r.ltd
              have HFi := Lib.hid (act_fill (HAO.out wB hPB.chg.low))
              have HWr := act_write hPB.d B
              have HRF := Lib.hid (show ∀ W, Chg [b] wB W → Calls Try.prog 14 #[.slice B.ab B.bs.length B.cb] W fun e w' => e = .returned (sv (fillS B.bs)) ∧ Chg [b] wB w' ∧ Chg [] W w' from fun W hW =>
                (rfill_any W B.ab B.bs B.cb W.heap.size (HAO.out W (hPB.chg.then hW (by simp; omega)).low).ab (Nat.le_refl _)).mono fun e w' ⟨he, hc⟩ => ⟨he, hW.then hc (by simp), hc⟩)
              have HRW := show ∀ W, Chg [b] wB W → Calls Try.prog 13 #[.pointer (some ⟨q, 0, none⟩), .int .i64 bi, sv (fillS B.bs)] W fun e w' => e = .returned (.int .i64 (werr n bi)) ∧ Hid (Rdk w' q gn go gd n (now F (updI n m bi (fillS B.bs))) F (fun j => (updI n m bi (fillS B.bs) j).isSome)) ∧ Chg [gn, gd] W w' from fun W hW =>
                rwrite_any W (hPB.r.keep hW (by simp; omega) (by simp; omega) (by simp; omega) (by simp; omega)) bi (fillS B.bs) (fillS_len _)
              rw [HBI.out] at HWr
              obtain ⟨E, HE⟩ : ∃ E, Hid (werr n bi = E) := ⟨_, Lib.hid rfl⟩
              rw [HE.out] at HWr HRW
              have HWr' := Lib.hid HWr
              have HRW' := Lib.hid HRW
              clear HWr HRW hPB
              go_wp2_with fail
              go_region_held3 (fun w' => w'.cell? ⟨wr.heap.size, 1, none⟩ = some (.int .i64 bi) ∧ w'.cell? ⟨wr.heap.size, 2, none⟩ = some (.slice B.ab B.bs.length B.cb))
                (first
                  | assumption
                  | exact hst
                  | exact ⟨hc8.cell hB1 (by simp), hc8.cell hB2 (by simp)⟩
                  | exact ⟨hc9.cell hB1 (by simp; omega), hc9.cell hB2 (by simp; omega)⟩
                  | exact ⟨hc10.cell hB1 (by simp; omega), hc10.cell hB2 (by simp; omega)⟩
                  | exact ⟨hc11.cell (hc10.cell hB1 (by simp; omega)) (by simp; omega), hc11.cell (hc10.cell hB2 (by simp; omega)) (by simp; omega)⟩)
                (first
                  | (go_at_call 12; (with_reducible refine HFi.out.mono ?_); rintro e w8 ⟨rfl, hc8⟩)
                  | (go_at_call 11; (with_reducible refine (HWr'.out _ hc8).mono ?_); rintro e w9 ⟨rfl, hd9, hc9⟩)
                  | (go_at_call 14; (with_reducible refine (HRF.out _ hc9).mono ?_); rintro e w10 ⟨rfl, hc10, hd10⟩)
                  | (go_at_call 13; (with_reducible refine (HRW'.out _ hc10).mono ?_); rintro e w11 ⟨rfl, hr11, hc11⟩))
              go_wp2_with fail
              go_meet
              exact ⟨p, g, b, q, gn, go, gd, F, _, rfl, rfl, rfl, HPB.out.write hd9.out hc9 hc10 hd10 hr11.out hc11, hc11.cell (hc10.cell hB1 (by simp; omega)) (by simp; omega)⟩
            · have hq1 : (kd == 1) = false := by simpa using e1
              have hq1' : decide (kd = 1) = false := by simpa using e1
              clear e1
              by_cases e2 : kd = 2
              · subst e2
                have hgw := HPr.out.d.ltg
                have hbw := HPr.out.d.ltb
                have hgow := HPr.out.r.lto
                have hgdw := HPr.out.r.ltd
                obtain ⟨⟨s1, s2, s3, s4⟩, ⟨s5, s6, s7, s8⟩, ⟨s9, s10, s11, s12⟩⟩ := HPB.out.sep
                have HFl := Lib.hid (flush_ok wB HPB.out.d)
                go_wp2_with (first
                  | (go_at_call 15; (with_reducible refine HFl.out.mono ?_); rintro e w8 ⟨rfl, hd8, hc8⟩; have HRF := Lib.hid (rflush_ok w8 (HPB.out.r.keep hc8 (by simp; omega) (by simp; omega) (by simp; omega) (by simp; omega))))
                  | (go_at_call 16; (with_reducible refine HRF.out.mono ?_); rintro e w9 ⟨⟨v9, rfl⟩, hr9, hc9⟩)
                  | fail)
                go_meet
                exact ⟨p, g, b, q, gn, go, gd, _, _, rfl, rfl, rfl, HPB.out.flush hd8 hc8 hr9 hc9, hc9.cell (hc8.cell hB1 (by simp; omega)) (by simp; omega)⟩
              · have hq2 : (kd == 2) = false := by simpa using e2
                have hq2' : decide (kd = 2) = false := by simpa using e2
                clear e2
                by_cases e3 : kd = 3
                · subst e3
                  have hok := HAO.out wB HPB.out.chg.low
                  have HCr := Lib.hid (crash_ok wB HPB.out.d B.ak B.ks B.ck wB.heap.size hok.ak (Nat.le_refl _) hok.ks)
                  have hsz := HPB.out.chg.size
                  clear hok
                  go_wp2_with (first
                    | (go_at_call 17; (with_reducible refine HCr.out.mono ?_); rintro e w8 ⟨p8, g8, b8, rfl, hp8, hg8, hb8, hx8, hc8⟩)
                    | (go_at_call 18; (with_reducible refine (alike_ok _ (HPB.out.d.kept hc8) (HPB.out.r.kept hc8)).mono ?_); rintro e w9 ⟨rfl, hc9⟩; have hc89 := hc8.trans hc9; have hB39 := hc89.cell hB3 (by simp); have HRC := Lib.hid (rcrash_ok w9 (HPB.out.r.kept hc89) B.ak B.ks B.ck w9.heap.size (HAO.out w9 (HPB.out.chg.trans hc89).low).ak (Nat.le_refl _) (HAO.out w9 (HPB.out.chg.trans hc89).low).ks (fun i => HPB.out.clen i)))
                    | (go_at_call 19; (with_reducible refine HRC.out.mono ?_); rintro e w10 ⟨q8, gn8, go8, gd8, rfl, hq8, hgn8, hgo8, hgd8, hr8, hc10⟩)
                    | fail)
                  go_meet
                  exact ⟨p8, g8, b8, q8, gn8, go8, gd8, _, _, rfl, rfl, rfl, HPB.out.crash hp8 hg8 hb8 hx8 hc8 hc9 hq8 hgn8 hgo8 hgd8 hr8 hc10, hc10.cell (hc89.cell hB1 (by simp)) (by simp)⟩
                · have hq3 : (kd == 3) = false := by simpa using e3
                  have hq3' : decide (kd = 3) = false := by simpa using e3
                  clear e3
                  go_wp2_with fail
                  go_meet
                  exact ⟨p, g, b, q, gn, go, gd, F, m, rfl, rfl, rfl, HPB.out, hB1⟩
          case rest =>
            obtain ⟨p2, g2, b2, q2, gn2, go2, gd2, F2, m2, rfl, rfl, rfl, hP2, hcell⟩ := hcut
            have HP2 := Lib.hid hP2
            clear hP2
            by_cases hin : 0 ≤ bi ∧ bi < n
            · have HRd := read_any wc HP2.out.d bi
              have hSl := rdS_len HP2.out.d bi
              rw [werr_in hin] at HRd
              obtain ⟨S, HS⟩ : ∃ S, Hid (rdS n F2 m2 bi = S) := ⟨_, Lib.hid rfl⟩
              rw [HS.out] at HRd hSl
              have HR := Lib.hid HRd
              have hdi : decide (0 ≤ bi ∧ bi < n) = true := by simpa using hin
              clear HRd hin
              go_wp2_with (first
                | (go_at_call 20; (with_reducible refine HR.out.mono ?_); rintro e wx ⟨rfl, hcx⟩)
                | (refine wpList_alloc37 rfl rfl ?_)
                | (refine wpList_laid rfl _ _ rfl S rfl rfl rfl hSl ?_; intro wy hry hcy; have hcxy := hcx.trans hcy)
                | (go_at_call 18; (with_reducible refine (alike_ok _ (HP2.out.d.kept hcxy) (HP2.out.r.kept hcxy)).mono ?_); rintro e wz ⟨rfl, hcz⟩; have hcz3 := hcxy.trans hcz; have hcell3 := hcz3.cell hcell (by simp))
                | (go_at_call 21; (with_reducible refine (is_ok _ (HP2.out.r.kept hcz3) bi true hdi).mono ?_); rintro e wv ⟨rfl, rfl⟩)
                | fail)
              go_roundw
              case rel => exact ⟨k + 1, p2, g2, b2, q2, gn2, go2, gd2, F2, m2, by omega, by omega, rfl, rfl, by go_num, HP2.out.kept hcz3⟩
              case measure => simp [intOf]; omega
            · have HRd := read_any wc HP2.out.d bi
              have hSl := rdS_len HP2.out.d bi
              rw [werr_out hin] at HRd
              obtain ⟨S, HS⟩ : ∃ S, Hid (rdS n F2 m2 bi = S) := ⟨_, Lib.hid rfl⟩
              rw [HS.out] at HRd hSl
              have HR := Lib.hid HRd
              have hdi : decide (0 ≤ bi ∧ bi < n) = false := by simpa using hin
              clear HRd hin
              go_wp2_with (first
                | (go_at_call 20; (with_reducible refine HR.out.mono ?_); rintro e wx ⟨rfl, hcx⟩)
                | (refine wpList_alloc37 rfl rfl ?_)
                | (refine wpList_laid rfl _ _ rfl S rfl rfl rfl hSl ?_; intro wy hry hcy; have hcxy := hcx.trans hcy)
                | (go_at_call 18; (with_reducible refine (alike_ok _ (HP2.out.d.kept hcxy) (HP2.out.r.kept hcxy)).mono ?_); rintro e wz ⟨rfl, hcz⟩; have hcz3 := hcxy.trans hcz; have hcell3 := hcz3.cell hcell (by simp))
                | (go_at_call 21; (with_reducible refine (is_ok _ (HP2.out.r.kept hcz3) bi false hdi).mono ?_); rintro e wv ⟨rfl, rfl⟩)
                | fail)
              go_roundw
              case rel => exact ⟨k + 1, p2, g2, b2, q2, gn2, go2, gd2, F2, m2, by omega, by omega, rfl, rfl, by go_num, HP2.out.kept hcz3⟩
              case measure => simp [intOf]; omega
      · have hcase := play_exit hlt
        clear hlt
        rcases hcase with hq1 | ⟨hq1, hq2⟩
        all_goals
          go_wp2_with (first
            | (go_at_call 10; refine (alive_any _).mono ?_; rintro e w1 ⟨rfl, hc1⟩)
            | fail)
          go_ret
          exact ⟨rfl, (hP.chg.trans hc1).low⟩
theorem diskPlays_row (w : World) {s : Int} {a : Option Addr} {len cap : Nat} {A : Nat → ActD} (h0 : (Lit.int .i64 s).wf = true) (hA : IsActs w a len A) :
    Calls Try.prog 3 #[.int .i64 s, .slice a len cap] w fun e w' => e = .returned (.bool true) ∧ Below w.heap.size w w' :=
  diskPlays_walk w s (bounds_i64 h0) a len cap A hA
end Go.Proofs.Ytfgniggppafelaa
