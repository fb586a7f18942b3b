/-
  The statement DiskKeeps, walked. No condition but the ranges of the arguments.
-/
import Derived.Test.YtfgniggppafelaaLawK
namespace Go.Proofs.Ytfgniggppafelaa
open Go.RowKit Go.Maps Go.Shelf
set_option linter.unusedVariables false
set_option linter.unusedSimpArgs false
attribute [local go_sem ↓] Go.wp_at_zero Go.wp_at_succ

set_option maxHeartbeats 1000000 in
set_option maxRecDepth 100000 in
theorem diskKeeps_walk (w : World) (s : Int) (hs : -9223372036854775808 ≤ s ∧ s ≤ 9223372036854775807) (a : Option Addr) (len cap : Nat) (A : Nat → ActD) (hA : IsActs w a len A) :
    Calls Try.prog 5 #[.int .i64 s, .slice a len cap] w fun e w' => e = .returned (.bool true) ∧ Below w.heap.size w w' := by
  by_cases hr : s < 1 ∨ 60 < s
  · have hcase : decide (s < 1) = true ∨ (decide (s < 1) = false ∧ decide (60 < s) = true) := by
      by_cases h1 : s < 1
      · exact .inl (by simpa using h1)
      · exact .inr ⟨by simpa using h1, by simp; omega⟩
    rcases hcase with h1 | ⟨h1, h2⟩
    all_goals
      go_enter Try.func5, Try.ntmps5
      go_wp2_with (first
        | (go_at_call 10; refine (alive_any _).mono ?_; rintro e w1 ⟨rfl, hc1⟩)
        | fail)
      go_ret
      exact ⟨rfl, hc1.low⟩
  · obtain ⟨n, rfl⟩ := Int.eq_ofNat_of_zero_le (show 0 ≤ s by omega)
    have hn1 : 1 ≤ n := by omega
    have hn2 : n ≤ 60 := by omega
    have h1 : decide ((n : Int) < 1) = false := by simp; omega
    have h2 : decide ((60 : Int) < (n : Int)) = false := by simp; omega
    have HN := Lib.hid (new_ex w n hn1 (by omega))
    have HA := Lib.hid hA
    have hlen := hA.1
    have hmk := fun w => make37 w n (by omega)
    clear hr hs hA
    go_enter Try.func5, Try.ntmps5
    go_wp2_with (first
      | (go_at_call 8; refine HN.out.mono ?_; rintro e w1 ⟨p, g, b, rfl, hp, hg, hb, hd1, hc1⟩)
      | fail)
    have hCm : Chg [] w1 (w1.alloc (.cells (zrow n) 37)) := (Chg.refl [] w1).alloc _
    have HD1 := Lib.hid (hd1.kept hCm)
    have hRf := RwAt.made w1 n 37
    have HC1 := Lib.hid (hc1.trans hCm)
    obtain ⟨f, HFB⟩ : ∃ f, Hid (w1.heap.size = f) := ⟨_, Lib.hid rfl⟩
    rw [HFB.out] at hRf ⊢
    have hf : w.heap.size ≤ f := by rw [← HFB.out]; exact hc1.size
    have hfne : f ≠ p ∧ f ≠ g ∧ f ≠ b := by have := hd1.ltp; have := hd1.ltg; have := hd1.ltb; have := HFB.out; omega
    have hgb := hd1.gb
    have hpgb : p ≠ g ∧ p ≠ b := ⟨hd1.pg, hd1.pb⟩
    obtain ⟨w2, HW2⟩ : ∃ w2, Hid (w1.alloc (.cells (zrow n) 37) = w2) := ⟨_, Lib.hid rfl⟩
    rw [HW2.out] at HD1 hRf HC1 ⊢
    have HRf := Lib.hid hRf
    clear hd1 hc1 hCm hRf
    go_loopw [8] (fun i wr => ∃ (k : Nat) (F : Nat → Sec) (m : Nat → Option Sec), k ≤ len ∧ k ≤ 100 ∧ i = .int .i64 k ∧ Dsk wr p g b n F m ∧ RwAt wr f n F ∧ Chg [g, b, f] w2 wr) (fun i _ => len - (intOf i).toNat)
    case atStart => exact ⟨0, _, _, Nat.zero_le _, by omega, rfl, HD1.out, HRf.out, Chg.refl _ _⟩
    case round =>
      obtain ⟨k, F, m, hk, hk100, rfl, hd, hR, hc⟩ := hrel
      have hcw : Chg [] w wr := HC1.out.then hc (by simp; omega)
      have hlow : Below w.heap.size w wr := hcw.low
      by_cases hlt : k < len ∧ k < 100
      · obtain ⟨b0, off, rfl, hb0, hat⟩ := HA.out.at_ (by omega)
        obtain ⟨hok, h0⟩ := hat wr hlow k hlt.1
        have hc0' := h0.c0
        have hc1' := h0.c1
        have hc2' := h0.c2
        have hk0 : (0 : Int) ≤ (k : Int) := by omega
        have hk1 : (k : Int) < (len : Int) := by omega
        have hk2 : (k : Int) < 100 := by omega
        have hbl := hok.bs
        obtain ⟨B, HB⟩ : ∃ B, Hid (A k = B) := ⟨_, Lib.hid rfl⟩
        rw [HB.out] at hc0' hc1' hc2' hok hbl
        have hne : b0 ≠ g ∧ b0 ≠ b ∧ b0 ≠ f := by omega
        by_cases hkd : B.kd = 2
        · rw [hkd] at hc0'
          have HFl := Lib.hid (flush_ok _ hd)
          clear hkd hc1' hc2' hok hbl h0 hat hmk
          go_wp2_with (first
            | (go_at_call 15; (with_reducible refine HFl.out.mono ?_); rintro e w7 ⟨rfl, hd7, hc7⟩)
            | fail)
          obtain ⟨G, HG⟩ : ∃ G, Hid (now F m = G) := ⟨_, Lib.hid rfl⟩
          rw [HG.out] at hd7
          have hR7 := hR.keep hc7 (by simp; omega)
          have HR7 := Lib.hid hR7
          have HD7 := Lib.hid hd7
          have HC7 := Lib.hid (hc.then hc7 (l := [g, b, f]) (by simp))
          have HLF := Lib.hid hd.lenF
          clear hd7 hc7 hR7 hR hd hc hcw hlow HFl
          rename World => wz7
          rename_i wq
          go_loopw [9] (fun i wi => ∃ j : Nat, j ≤ n ∧ i = .int .i64 j ∧ RwAt wi f n (mixR F G j) ∧ Chg [f] wz7 wi) (fun i _ => n - (intOf i).toNat)
          case atStart => exact ⟨0, Nat.zero_le _, rfl, by rw [mixR_zero]; exact HR7.out, Chg.refl _ _⟩
          case round =>
            obtain ⟨j, hj, rfl, hRi, hci⟩ := hrel
            by_cases hlj : j < n
            · have hdt : decide (j < n) = true := by simpa using hlj
              have hlg : (G j).length = 64 := HD7.out.lenF j
              have hj0 : (0 : Int) ≤ (j : Int) := by omega
              have hj1 : (j : Int) < (n : Int) := by omega
              have hdi := HD7.out.keep hci (by simp; omega) (by simp; omega) (by simp; omega)
              have HRj := Lib.hid (read_at hdi hlj (now_none G j))
              have HRi := Lib.hid hRi
              have hff := hRi.ltf (by omega)
              clear hdi hRi
              go_wp2_with (first
                | (go_at_call 20; (with_reducible refine (HRj.out _ (Chg.refl _ _)).mono ?_); rintro e wa ⟨rfl, hca⟩)
                | (refine wpList_alloc37 rfl rfl ?_)
                | (refine wpList_laid rfl _ _ rfl (G j) rfl rfl rfl hlg ?_; intro wb hrb hcb)
                | (refine wpList_load37 rfl _ rfl _ 0 rfl (G j) hrb hlg ?_)
                | (refine wpList_store37 rfl _ _ rfl f (j * 64) (G j) rfl rfl (((HRi.out.keep (hca.trans hcb) (by simp)).at_ j hlj)) hlg ?_)
                | fail)
              go_roundw
              case rel => exact ⟨j + 1, by omega, by go_num, (HRi.out.keep (hca.trans hcb) (by simp)).set HLF.out HD7.out.lenF hlj, (hci.trans ((hca.trans hcb).mono (by simp))).setCells (by simp) _ _⟩
              case measure => simp [intOf]; omega
            · have hdt : decide (j < n) = false := by simpa using hlj
              have hjn : j = n := by omega
              rw [hjn] at hRi
              have HRf2 := Lib.hid hRi.full
              have HDf := Lib.hid (HD7.out.keep hci (by simp; omega) (by simp; omega) (by simp; omega))
              have HCf := Lib.hid (HC7.out.then hci (by simp))
              clear hRi hci hjn
              go_wp2
              go_roundw
              case rel => exact ⟨k + 1, G, _, by omega, by omega, by go_num, HDf.out, HRf2.out, HCf.out⟩
              case measure => simp [intOf]; omega
        · have hkn : (B.kd == 2) = false := by simpa using hkd
          by_cases hbs : B.bs.length ≤ 100
          · have hbd : decide ((B.bs.length : Int) ≤ 100) = true := by simp; omega
            have HF := Lib.hid (act_fill hok)
            have HWr := Lib.hid (act_write hd B)
            have HR := Lib.hid hR
            have hst : wr.drew.cell? ⟨b0, off + k * 4 + 1, none⟩ = some (.int .i64 B.i) ∧ wr.drew.cell? ⟨b0, off + k * 4 + 2, none⟩ = some (.slice B.ab B.bs.length B.cb) := ⟨hc1', hc2'⟩
            clear h0 hat hok hd hlow hcw hkd hmk hR
            go_wp2_with fail
            go_region_held3 (fun w' => w'.cell? ⟨b0, off + k * 4 + 1, none⟩ = some (.int .i64 B.i) ∧ w'.cell? ⟨b0, off + k * 4 + 2, none⟩ = some (.slice B.ab B.bs.length B.cb))
              (first
                | assumption
                | exact hst
                | exact ⟨hc8.cell hc1' (by simp), hc8.cell hc2' (by simp)⟩
                | exact ⟨hc9.cell hc1' (by simp; omega), hc9.cell hc2' (by simp; omega)⟩)
              (first
                | (go_at_call 12; (with_reducible refine HF.out.mono ?_); rintro e w8 ⟨rfl, hc8⟩)
                | (go_at_call 11; (with_reducible refine (HWr.out _ hc8).mono ?_); rintro e w9 ⟨rfl, hd9, hc9⟩))
            go_wp2
            go_roundw
            case rel => exact ⟨k + 1, F, _, by omega, by omega, by go_num, hd9.out, HR.out.keep hc9 (by simp; omega), hc.then hc9 (by simp)⟩
            case measure => simp [intOf]; omega
          · have hbd : decide ((B.bs.length : Int) ≤ 100) = false := by simp; omega
            have HDr := Lib.hid (And.intro hd hR)
            clear h0 hat hok hd hlow hcw hkd hmk hR
            go_wp2
            go_roundw
            case rel => exact ⟨k + 1, F, m, by omega, by omega, by go_num, HDr.out.1, HDr.out.2, hc⟩
            case measure => simp [intOf]; omega
      · have hcase : decide (k < len) = false ∨ (decide (k < len) = true ∧ decide ((k : Int) < 100) = false) := by
          by_cases h : k < len
          · exact .inr ⟨by simp; omega, by simp; omega⟩
          · exact .inl (by simp; omega)
        have hmb := fun w => make_bl w n (by omega)
        have hBl0 := blAt_made wr n 4
        have hCb : Chg [] wr (wr.alloc (.cells (madeCells #[.bool false] n) 4)) := (Chg.refl [] wr).alloc _
        have hd2 := hd.kept hCb
        have hR2 := hR.keep hCb (by simp)
        have hcw2 := hcw.trans hCb
        obtain ⟨ab, HAB⟩ : ∃ ab, Hid (wr.heap.size = ab) := ⟨_, Lib.hid rfl⟩
        have hab : w.heap.size ≤ ab ∧ ab ≠ p ∧ ab ≠ g ∧ ab ≠ b ∧ ab ≠ f := by
          have := hlow.size; have := hd.ltp; have := hd.ltg; have := hd.ltb; have := hR.ltf (by omega); have := HAB.out; omega
        obtain ⟨w3, HW3⟩ : ∃ w3, Hid (wr.alloc (.cells (madeCells #[.bool false] n) 4) = w3) := ⟨_, Lib.hid rfl⟩
        rw [HAB.out] at hBl0
        rw [HW3.out] at hBl0 hd2 hR2 hcw2
        have H3 := Lib.hid (And.intro hBl0 (And.intro hd2 (And.intro hR2 hcw2)))
        clear hBl0 hCb hd2 hR2 hcw2 hd hR hc hcw hlow hmk
        rcases hcase with hq | ⟨hq, hq2⟩
        all_goals
          go_wp2_with fail
          rw [HAB.out, HW3.out]
          clear hmb
          go_loopw [13] (fun i wi => ∃ j : Nat, j ≤ n ∧ i = .int .i64 j ∧ (BlAt wi ab n fun x => decide (x < j)) ∧ Chg [ab] w3 wi) (fun i _ => n - (intOf i).toNat)
          case atStart => exact ⟨0, Nat.zero_le _, rfl, H3.out.1.congr (fun j _ => by simp), Chg.refl _ _⟩
          case round =>
            obtain ⟨j, hj, rfl, hBi, hci⟩ := hrel
            by_cases hlj : j < n
            · have hdt : decide (j < n) = true := by simpa using hlj
              have hj0 : (0 : Int) ≤ (j : Int) := by omega
              have hj1 : (j : Int) < (n : Int) := by omega
              have hcl := hBi.cell j hlj
              have hfz := hBi.free j
              have HBi := Lib.hid hBi
              clear hBi
              go_wp2_with fail
              go_roundw
              case rel => exact ⟨j + 1, by omega, by go_num, blAt_next HBi.out hlj, hci.setCell (by simp) _⟩
              case measure => simp [intOf]; omega
            · have hdt : decide (j < n) = false := by simpa using hlj
              have hjn : j = n := by omega
              rw [hjn] at hBi
              have hBn : BlAt wr ab n (fun _ => true) := hBi.congr fun x hx => by simpa using hx
              have habl := World.block_lt_of_cell? wr _ (hBn.cell 0 (by omega))
              have hd4 := H3.out.2.1.keep hci (by simp; omega) (by simp; omega) (by simp; omega)
              have hR4 := H3.out.2.2.1.keep hci (by simp; omega)
              have hcw4 : Chg [] w wr := H3.out.2.2.2.then hci (by simp; omega)
              have hcr := crash_ok wr hd4 (some ⟨ab, 0, none⟩) ((List.range n).map fun _ => true) n (ab + 1) (hBn.ro (ab + 1) (by omega)) habl (by simp; omega)
              rw [show ((List.range n).map fun _ => true).length = n by simp] at hcr
              have HCr := Lib.hid hcr
              have HCy := Lib.hid (crash_none hd4)
              have H4 := Lib.hid (And.intro hd4 (And.intro hR4 hcw4))
              clear hcr hBi hBn hjn habl hd4 hR4 hcw4 hci hab
              go_wp2_with (first
                | (go_at_call 17; (with_reducible refine HCr.out.mono ?_); rintro e w5 ⟨p2, g2, b2, rfl, hp2, hg2, hb2, hx5, hc5⟩)
                | (go_at_call 17; (with_reducible refine (HCy.out _ hc5).mono ?_); rintro e w6 ⟨p3, g3, b3, rfl, hp3, hg3, hb3, hy6, hc6⟩)
                | fail)
              have hd5 := H4.out.1.kept hc5
              have hd6 := hd5.kept hc6
              have hx6 := hx5.kept hc6
              have hR6 := H4.out.2.1.keep (hc5.trans hc6) (by simp)
              have hcw6 := H4.out.2.2.trans (hc5.trans hc6)
              have HDX := Lib.hid (show ∀ j, j < n → (now F m j).length = 64 ∧ (F j).length = 64 from fun j hj => ⟨hd6.lenN j, hd6.lenF j⟩)
              have HRd := Lib.hid (show ∀ k, k < n → ∀ W, Chg [] w6 W → _ from fun k hk => read_at hd6 hk rfl)
              have HRx := Lib.hid (show ∀ k, k < n → ∀ W, Chg [] w6 W → _ from fun k hk => read_at hx6 hk ((now_none _ k).trans (crashF_all hk)))
              have HRy := Lib.hid (show ∀ k, k < n → ∀ W, Chg [] w6 W → _ from fun k hk => read_at hy6 hk ((now_none _ k).trans (crashF_nil F m k)))
              have HR6 := Lib.hid hR6
              have HCW6 := Lib.hid hcw6
              clear hd5 hd6 hx5 hx6 hy6 hR6 hcw6 hc5 hc6 HCr HCy H4 hdt
              go_loopw [16] (fun i wi => ∃ k : Nat, k ≤ n ∧ i = .int .i64 k ∧ Chg [] w6 wi) (fun i _ => n - (intOf i).toNat)
              case atStart => exact ⟨0, Nat.zero_le _, rfl, Chg.refl _ _⟩
              case round =>
                obtain ⟨k3, hk3, rfl, hci⟩ := hrel
                by_cases hl3 : k3 < n
                · have hdt : decide (k3 < n) = true := by simpa using hl3
                  have hj0 : (0 : Int) ≤ (k3 : Int) := by omega
                  have hj1 : (k3 : Int) < (n : Int) := by omega
                  obtain ⟨hl1, hl2⟩ := HDX.out k3 hl3
                  have HR1 := HRd.out k3 hl3
                  have HR2 := HRx.out k3 hl3
                  have HR3 := HRy.out k3 hl3
                  have hrf := HR6.out.rng k3 hl3
                  obtain ⟨S1, HS1⟩ : ∃ S, Hid (now F m k3 = S) := ⟨_, Lib.hid rfl⟩
                  obtain ⟨S2, HS2⟩ : ∃ S, Hid (F k3 = S) := ⟨_, Lib.hid rfl⟩
                  rw [HS1.out] at HR1 HR2 hl1
                  rw [HS2.out] at HR3 hl2 hrf
                  have HR1' := Lib.hid HR1
                  have HR2' := Lib.hid HR2
                  have HR3' := Lib.hid HR3
                  have hq1 := same37 S1 hl1
                  have hq2 := same37 S2 hl2
                  have hu := Try.underlying37
                  have hinf1 : (Try.prog.info? 37).map (·.size) = some (u8s S1).length := by rw [u8s_length, hl1]; exact info37
                  have hinf2 : (Try.prog.info? 37).map (·.size) = some (u8s S2).length := by rw [u8s_length, hl2]; exact info37
                  have tok1 : True := trivial
                  clear HR1 HR2 HR3
                  go_wp2_with (first
                    | (go_at_call 20; (with_reducible refine (HR1'.out _ hci).mono ?_); rintro e wa ⟨rfl, hca⟩)
                    | (go_at_call 20; (with_reducible refine (HR2'.out _ (hci.trans (hca.trans hcb))).mono ?_); rintro e wc ⟨rfl, hcc⟩)
                    | (go_at_call 20; (with_reducible refine (HR3'.out _ (hci.trans ((hca.trans hcb).trans (hcc.trans hcd)))).mono ?_); rintro e we ⟨rfl, hce⟩)
                    | (refine wpList_alloc37 rfl rfl ?_)
                    | (have _t := tok1; refine wpList_laid rfl _ _ rfl S1 rfl rfl rfl hl1 ?_; intro wb hrb hcb; clear tok1)
                    | (refine wpList_laid rfl _ _ rfl S1 rfl rfl rfl hl1 ?_; intro wd hrd hcd)
                    | (refine wpList_laid rfl _ _ rfl S2 rfl rfl rfl hl2 ?_; intro wf hrf2 hcf)
                    | fail)
                  have hcbf : Chg [] wb wf := (hcc.trans hcd).trans (hce.trans hcf)
                  have hcif : Chg [] w6 wf := hci.trans ((hca.trans hcb).trans hcbf)
                  have hrbf := hcbf.range hrb (by simp)
                  have hrdf := (hce.trans hcf).range hrd (by simp)
                  have hrff := hcif.range hrf (by simp)
                  clear hrb hrd hrf hca hcb hcc hcd hce hcf hcbf hci
                  refine wp_region_quiet_lit (by kernel_rfl) (by kernel_rfl) ?_
                  repeat (first
                    | ((first
                        | refine wpQuiet_load37 _ rfl _ _ rfl S1 hrbf hl1 rfl ?_
                        | refine wpQuiet_load37 _ rfl _ _ rfl S1 hrdf hl1 rfl ?_
                        | refine wpQuiet_load37 _ rfl _ _ rfl S2 hrf2 hl2 rfl ?_
                        | refine wpQuiet_load37 _ rfl _ _ rfl S2 hrff hl2 rfl ?_); simp only [Act.put, List.setIfInBounds_toArray, List.set_cons_zero, List.set_cons_succ])
                    | go_big_quiet_step (fail))
                  refine wpQuiet_nil ?_
                  intro _ hw'
                  obtain ⟨nq, hw''⟩ := hw'
                  subst hw''
                  go_wp2
                  go_roundw
                  case rel => exact ⟨k3 + 1, by omega, by go_num, hcif.drewN nq⟩
                  case measure => simp [intOf]; omega
                · have hdt : decide (k3 < n) = false := by simpa using hl3
                  go_wp2_with (first
                    | (go_at_call 10; refine (alive_any _).mono ?_; rintro e wa ⟨rfl, hca⟩)
                    | fail)
                  go_ret
                  exact ⟨rfl, (HCW6.out.trans (hci.trans hca)).low⟩
theorem diskKeeps_row (w : World) {s : Int} {a : Option Addr} {len cap : Nat} {A : Nat → ActD} (h0 : (Lit.int .i64 s).wf = true) (hA : IsActs w a len A) :
    Calls Try.prog 5 #[.int .i64 s, .slice a len cap] w fun e w' => e = .returned (.bool true) ∧ Below w.heap.size w w' :=
  diskKeeps_walk w s (bounds_i64 h0) a len cap A hA
end Go.Proofs.Ytfgniggppafelaa
