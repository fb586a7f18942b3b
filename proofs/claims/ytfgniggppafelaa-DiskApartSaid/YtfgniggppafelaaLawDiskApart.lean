/-
  The statement DiskApart, walked. No condition but the ranges of the arguments.
-/
import Derived.Test.YtfgniggppafelaaLawK
namespace Go.Proofs.Ytfgniggppafelaa
open Go.RowKit Go.Maps Go.Shelf
set_option linter.unusedVariables false
set_option linter.unusedSimpArgs false
attribute [local go_sem ↓] Go.wp_at_zero Go.wp_at_succ

set_option maxHeartbeats 1000000 in
set_option maxRecDepth 100000 in
theorem diskApart_walk (w : World) (s : Int) (hs : -9223372036854775808 ≤ s ∧ s ≤ 9223372036854775807) (a : Option Addr) (len cap : Nat) (A : Nat → ActD) (hA : IsActs w a len A) (ak : Option Addr) (ks : List Bool) (ck : Nat) (hrk : Ro w w.heap.size ak (bls ks)) (hkl : ks.length ≤ 9223372036854775807) :
    Calls Try.prog 7 #[.int .i64 s, .slice a len cap, .slice ak ks.length ck] w fun e w' => e = .returned (.bool true) ∧ Below w.heap.size w w' := by
  by_cases hr : s < 1 ∨ 60 < s
  · have hcase : decide (s < 1) = true ∨ (decide (s < 1) = false ∧ decide (60 < s) = true) := by
      by_cases h1 : s < 1
      · exact .inl (by simpa using h1)
      · exact .inr ⟨by simpa using h1, by simp; omega⟩
    rcases hcase with h1 | ⟨h1, h2⟩
    all_goals
      go_enter Try.func7, Try.ntmps7
      go_wp2_with (first
        | (go_at_call 10; refine (alive_any _).mono ?_; rintro e w1 ⟨rfl, hc1⟩)
        | fail)
      go_ret
      exact ⟨rfl, hc1.low⟩
  · obtain ⟨n, rfl⟩ := Int.eq_ofNat_of_zero_le (show 0 ≤ s by omega)
    have hn1 : 1 ≤ n := by omega
    have hn2 : n ≤ 60 := by omega
    have h1 : decide ((n : Int) < 1) = false := by simp; omega
    have h2 : decide ((60 : Int) < (n : Int)) = false := by simp; omega
    have HN := Lib.hid (new_ex w n hn1 (by omega))
    have HA := Lib.hid hA
    have hlen := hA.1
    have HK := Lib.hid hrk
    clear hr hs hA hrk
    go_enter Try.func7, Try.ntmps7
    go_wp2_with (first
      | (go_at_call 8; refine HN.out.mono ?_; rintro e w1 ⟨p, g, b, rfl, hp, hg, hb, hd1, hc1⟩)
      | fail)
    have HD1 := Lib.hid hd1
    have HC1 := Lib.hid hc1
    clear hd1 hc1
    go_loopw [9] (fun i wr => ∃ (k : Nat) (m : Nat → Option Sec), k ≤ len ∧ k ≤ 100 ∧ i = .int .i64 k ∧ Dsk wr p g b n (fun _ => zsec) m ∧ Chg [b] w1 wr) (fun i _ => len - (intOf i).toNat)
    case atStart => exact ⟨0, _, Nat.zero_le _, by omega, rfl, HD1.out, Chg.refl _ _⟩
    case round =>
      obtain ⟨k, m, hk, hk100, rfl, hd, hc⟩ := hrel
      have hcw : Chg [] w wr := HC1.out.then hc (by simp; omega)
      have hlow : Below w.heap.size w wr := hcw.low
      by_cases hlt : k < len ∧ k < 100
      · obtain ⟨b0, off, rfl, hb0, hat⟩ := HA.out.at_ (by omega)
        obtain ⟨hok, h0⟩ := hat wr hlow k hlt.1
        have hc1' := h0.c1
        have hc2' := h0.c2
        have hk0 : (0 : Int) ≤ (k : Int) := by omega
        have hk1 : (k : Int) < (len : Int) := by omega
        have hk2 : (k : Int) < 100 := by omega
        have hbl := hok.bs
        obtain ⟨B, HB⟩ : ∃ B, Hid (A k = B) := ⟨_, Lib.hid rfl⟩
        rw [HB.out] at hc1' hc2' hok hbl
        by_cases hbs : B.bs.length ≤ 100
        · have hbd : decide ((B.bs.length : Int) ≤ 100) = true := by simp; omega
          have HF := Lib.hid (act_fill hok)
          have HWr := Lib.hid (act_write hd B)
          have hst : wr.drew.cell? ⟨b0, off + k * 4 + 1, none⟩ = some (.int .i64 B.i) ∧ wr.drew.cell? ⟨b0, off + k * 4 + 2, none⟩ = some (.slice B.ab B.bs.length B.cb) := ⟨hc1', hc2'⟩
          have hne : b0 ≠ b := by omega
          clear h0 hat hok hd hlow hcw
          go_wp2_with fail
          go_region_held3 (fun w' => w'.cell? ⟨b0, off + k * 4 + 1, none⟩ = some (.int .i64 B.i) ∧ w'.cell? ⟨b0, off + k * 4 + 2, none⟩ = some (.slice B.ab B.bs.length B.cb))
            (first
              | assumption
              | exact hst
              | exact ⟨hc8.cell hc1' (by simp), hc8.cell hc2' (by simp)⟩
              | exact ⟨hc9.cell hc1' (by simpa using hne), hc9.cell hc2' (by simpa using hne)⟩)
            (first
              | (go_at_call 12; (with_reducible refine HF.out.mono ?_); rintro e w8 ⟨rfl, hc8⟩)
              | (go_at_call 11; (with_reducible refine (HWr.out _ hc8).mono ?_); rintro e w9 ⟨rfl, hd9, hc9⟩))
          go_wp2
          go_roundw
          case rel => exact ⟨k + 1, _, by omega, by omega, by go_num, hd9.out, hc.trans hc9⟩
          case measure => simp [intOf]; omega
        · have hbd : decide ((B.bs.length : Int) ≤ 100) = false := by simp; omega
          have HDr := Lib.hid hd
          clear h0 hat hok hd hlow hcw
          go_wp2
          go_roundw
          case rel => exact ⟨k + 1, m, by omega, by omega, by go_num, HDr.out, hc⟩
          case measure => simp [intOf]; omega
      · have hcase : decide (k < len) = false ∨ (decide (k < len) = true ∧ decide ((k : Int) < 100) = false) := by
          by_cases h : k < len
          · exact .inr ⟨by simp; omega, by simp; omega⟩
          · exact .inl (by simp; omega)
        have hd1 := hd
        have HCr := Lib.hid (crash_ok wr hd ak ks ck w.heap.size (HK.out.below hlow (Nat.le_refl _)) hlow.size hkl)
        have hsz := hlow.size
        clear hd1 hlow
        rcases hcase with hq | ⟨hq, hq2⟩
        all_goals
          have kc := fun (w : World) (C : Array Value) (n c : Nat) => Lib.run_convert_bytes_const (P := Try.prog) w 31 5 C n c Try.underlying31 Try.underlying5
          go_wp2_with (first
            | (go_at_call 17; refine HCr.out.mono ?_; rintro e w2 ⟨p2, g2, b2, rfl, hp2, hg2, hb2, hd2, hc2⟩)
            | fail)
          have hdd := hd.kept hc2
          have hcw2 := hcw.trans hc2
          have hsz2 := hc2.size
          obtain ⟨F2, hF2⟩ : ∃ F2, crashF (fun _ => zsec) m ks = F2 := ⟨_, rfl⟩
          rw [hF2] at hd2
          have hlt2 : p2 ≠ b ∧ g2 ≠ b ∧ b2 ≠ b := by have := hd.ltb; omega
          have hlt3 : p ≠ b2 ∧ g ≠ b2 ∧ p ≠ g2 ∧ g ≠ g2 ∧ b ≠ g2 := by have := hd.ltp; have := hd.ltg; have := hd.ltb; omega
          clear hF2 hcw hc2 hd HCr
          have hf := fill_lit w2 [109, 105, 110, 101] 4 (4, 5)
          obtain ⟨Sm, HSm, hlm⟩ : ∃ S, Hid (fillS [109, 105, 110, 101] = S) ∧ S.length = 64 := ⟨_, Lib.hid rfl, fillS_len _⟩
          rw [HSm.out] at hf
          have HF1 := Lib.hid hf
          have hf2 := fun W => fill_lit W [111, 116, 104, 101, 114] 5 (5, 6)
          obtain ⟨So, HSo, hlo⟩ : ∃ S, Hid (fillS [111, 116, 104, 101, 114] = S) ∧ S.length = 64 := ⟨_, Lib.hid rfl, fillS_len _⟩
          rw [HSo.out] at hf2
          have HF2 := Lib.hid hf2
          clear hf hf2
          go_wp2_with (first
            | (go_at_call 12; refine HF1.out.mono ?_; rintro e w3 ⟨rfl, hc3⟩; clear HF1)
            | (go_at_call 12; refine (HF2.out _).mono ?_; rintro e w5 ⟨rfl, hc5⟩; clear HF2)
            | (refine wpList_alloc37 rfl rfl ?_)
            | (refine wpList_laid rfl _ _ rfl Sm rfl rfl rfl hlm ?_; intro w4 hr4 hc4)
            | (refine wpList_laid rfl _ _ rfl So rfl rfl rfl hlo ?_; intro w6 hr6 hc6)
            | fail)
          clear kc
          obtain ⟨bm, HBM⟩ : ∃ bm, Hid (w3.heap.size = bm) := ⟨_, Lib.hid rfl⟩
          rw [HBM.out] at hr4 ⊢
          obtain ⟨bo, HBO⟩ : ∃ bo, Hid (w5.heap.size = bo) := ⟨_, Lib.hid rfl⟩
          rw [HBO.out] at hr6 ⊢
          have hc34 := hc3.trans hc4
          have hc46 := hc5.trans hc6
          have hc26 := hc34.trans hc46
          have hrm := hc46.range hr4 (by simp)
          have hd6 := hdd.kept hc26
          have hx6 := hd2.kept hc26
          have hcw6 := hcw2.trans hc26
          have hsz6 := hc26.size
          have hbm : w2.heap.size ≤ bm := by rw [← HBM.out]; exact hc3.size
          have hbo : w2.heap.size ≤ bo := by rw [← HBO.out]; have := hc34.size; have := hc5.size; omega
          have hbb := hdd.ltb
          have hbb2 := hd2.ltb
          have hbg2 := hd2.ltg
          have H6 := Lib.hid (And.intro hd6 (And.intro hx6 (And.intro hrm (And.intro hr6 hcw6))))
          have hneb : bm ≠ b ∧ bm ≠ b2 ∧ bo ≠ b ∧ bo ≠ b2 ∧ bm ≠ g2 ∧ bo ≠ g2 := by omega
          clear hd6 hx6 hrm hr6 hcw6 hc26 hc46 hc34 hc3 hc4 hc5 hc6 hr4 hdd hd2 hcw2
          have hd1k : ∀ k : Nat, k < n → werr n (k : Int) = 0 := fun k hk => werr_in (by omega)
          have HWE := Lib.hid hd1k
          clear hd1k
          go_loopw [13] (fun i wr => ∃ (k : Nat) (m m2 : Nat → Option Sec), k ≤ n ∧ i = .int .i64 k ∧ Dsk wr p g b n (fun _ => zsec) m ∧ (∀ j, j < k → m j = some Sm) ∧ Dsk wr p2 g2 b2 n F2 m2 ∧ (∀ j, j < k → m2 j = some So) ∧ Chg [b, b2] w6 wr) (fun i _ => n - (intOf i).toNat)
          case atStart => exact ⟨0, m, _, Nat.zero_le _, rfl, H6.out.1, (fun j hj => by omega), H6.out.2.1, (fun j hj => by omega), Chg.refl _ _⟩
          case round =>
            obtain ⟨k2, m1, m2, hk2, rfl, hd, hm1, hx, hm2, hcc⟩ := hrel
            have hrm := hcc.range H6.out.2.2.1 (by simp; omega)
            have hro := hcc.range H6.out.2.2.2.1 (by simp; omega)
            by_cases hl2 : k2 < n
            · have hdt : decide (k2 < n) = true := by simpa using hl2
              have HW1 := Lib.hid (write_ok _ hd k2 hl2 Sm hlm)
              have HX := Lib.hid hx
              clear hd hx
              go_wp2_with (first
                | (refine wpList_load37 rfl _ rfl bm 0 rfl Sm hrm hlm ?_)
                | (go_at_call 11; (with_reducible refine HW1.out.mono ?_); rintro e w7 ⟨rfl, hd7, hc7⟩)
                | (refine wpList_load37G _ rfl bo 0 rfl So (hc7.range hro (by simp; omega)) hlo rfl ?_)
                | (go_at_call 11; (with_reducible refine (write_ok _ (HX.out.keep hc7 (by simp; omega) (by simp; omega) (by simp; omega)) k2 hl2 So hlo).mono ?_); rintro e w8 ⟨rfl, hx8, hc8⟩)
                | fail)
              go_roundw
              case rel => exact ⟨k2 + 1, _, _, by omega, by go_num, hd7.keep hc8 (by simp; omega) (by simp; omega) (by simp; omega), upd_all hm1, hx8, upd_all hm2, (hcc.then hc7 (by simp)).then hc8 (by simp)⟩
              case measure => simp [intOf]; omega
            · have hdt : decide (k2 < n) = false := by simpa using hl2
              have hkn : k2 = n := by omega
              have HFl := Lib.hid (flush_ok _ hx)
              rw [hkn] at hm1 hm2
              have HMM := Lib.hid (And.intro hm1 hm2)
              clear hkn hm1 hm2
              go_wp2_with (first
                | (go_at_call 15; (with_reducible refine HFl.out.mono ?_); rintro e w7 ⟨rfl, hx7, hc7⟩)
                | fail)
              have hd7 := hd.keep hc7 (by simp; omega) (by simp; omega) (by simp; omega)
              have HCy := Lib.hid (crash_ok _ hx7 none [] 0 0 (Ro.nil _ _ _) (by omega) (by simp))
              go_wp2_with (first
                | (go_at_call 17; refine HCy.out.mono ?_; rintro e w8 ⟨p3, g3, b3, rfl, hp3, hg3, hb3, hy8, hc8⟩)
                | fail)
              have hd8 := hd7.kept hc8
              have hMM := HMM.out
              have hrm8 := (hc7.then hc8 (l := [g2, b2]) (by simp)).range hrm (by simp; omega)
              have hro8 := (hc7.then hc8 (l := [g2, b2]) (by simp)).range hro (by simp; omega)
              have hL8 := Lib.hid (dirtyL_all n m1 fun i hi => by rw [hMM.1 i hi]; rfl)
              have hcw8 : Chg [] w w8 := ((H6.out.2.2.2.2.then hcc (by simp; omega)).then hc7 (by simp; omega)).then hc8 (by simp)
              have HRd := Lib.hid (show ∀ k, k < n → ∀ W, Chg [] w8 W → _ from fun k hk => read_at hd8 hk (now_some (hMM.1 k hk)))
              have HRy := Lib.hid (show ∀ k, k < n → ∀ W, Chg [] w8 W → _ from fun k hk => read_at hy8 hk ((now_none _ k).trans ((crashF_nil _ _ k).trans (now_some (hMM.2 k hk)))))
              have HAl := Lib.hid (show ∀ W, Chg [] w8 W → Dsk W p g b n (fun _ => zsec) m1 from fun W hW => hd8.kept hW)
              have HAy := Lib.hid (show ∀ W, Chg [] w8 W → Dsk W p3 g3 b3 n _ (fun _ => none) from fun W hW => hy8.kept hW)
              have hqm := same37 Sm hlm
              have hqo := same37 So hlo
              clear hd hx hx7 hy8 hd7 hd8 hMM HFl HCy hc7 hc8 hrm hro hp3 hg3 hb3 hdt
              go_loopw [15] (fun i wr => ∃ k : Nat, k ≤ n ∧ i = .int .i64 k ∧ Chg [] w8 wr) (fun i _ => n - (intOf i).toNat)
              case atStart => exact ⟨0, Nat.zero_le _, rfl, Chg.refl _ _⟩
              case round =>
                obtain ⟨k3, hk3, rfl, hc3r⟩ := hrel
                by_cases hl3 : k3 < n
                · have hdt : decide (k3 < n) = true := by simpa using hl3
                  have HR1 := Lib.hid (HRd.out k3 hl3)
                  have HR2 := Lib.hid (HRy.out k3 hl3)
                  go_wp2_with (first
                    | (go_at_call 20; (with_reducible refine (HR1.out _ hc3r).mono ?_); rintro e wa ⟨rfl, hca⟩)
                    | (go_at_call 20; (with_reducible refine (HR2.out _ (hc3r.trans (hca.trans hcb))).mono ?_); rintro e wc ⟨rfl, hcc2⟩)
                    | (refine wpList_alloc37 rfl rfl ?_)
                    | (refine wpList_laid rfl _ _ rfl Sm rfl rfl rfl hlm ?_; intro wb hrb hcb)
                    | (refine wpList_laid rfl _ _ rfl So rfl rfl rfl hlo ?_; intro wd hrd hcd)
                    | (refine wpList_load37 rfl _ rfl _ 0 rfl Sm ((hcc2.trans hcd).range hrb (by simp)) hlm ?_)
                    | (refine wpList_load37 rfl _ rfl bm 0 rfl Sm ((hc3r.trans ((hca.trans hcb).trans (hcc2.trans hcd))).range hrm8 (by simp)) hlm ?_)
                    | (refine wpList_load37G _ rfl _ 0 rfl So hrd hlo rfl ?_)
                    | (refine wpList_load37G _ rfl bo 0 rfl So ((hc3r.trans ((hca.trans hcb).trans (hcc2.trans hcd))).range hro8 (by simp)) hlo rfl ?_)
                    | fail)
                  go_roundw
                  case rel => exact ⟨k3 + 1, by omega, by go_num, hc3r.trans ((hca.trans hcb).trans (hcc2.trans hcd))⟩
                  case measure => simp [intOf]; omega
                · have hdt : decide (k3 < n) = false := by simpa using hl3
                  have hc83 := Lib.hid hc3r
                  go_wp2_with (first
                    | (go_at_call 10; refine (alive_any _).mono ?_; rintro e wa ⟨rfl, hca⟩)
                    | (go_at_call 22; (with_reducible refine (dirty_any _ (HAl.out _ (hc3r.trans hca)) n hL8.out).mono ?_); rintro e wb ⟨ad, cd, rfl, hcb⟩)
                    | (go_at_call 22; (with_reducible refine (dirty_any _ (HAy.out _ (hc3r.trans (hca.trans hcb))) 0 (dirtyL_none n)).mono ?_); rintro e wc ⟨ae, ce, rfl, hcc2⟩)
                    | fail)
                  go_ret
                  exact ⟨rfl, (hcw8.trans (hc3r.trans (hca.trans (hcb.trans hcc2)))).low⟩
theorem diskApart_row (w : World) {s : Int} {a : Option Addr} {len cap : Nat} {A : Nat → ActD} {ak : Option Addr} {ks : List Bool} {ck : Nat} (h0 : (Lit.int .i64 s).wf = true) (hA : IsActs w a len A) (hk : Ro w w.heap.size ak (bls ks)) (hkl : ks.length ≤ 9223372036854775807) :
    Calls Try.prog 7 #[.int .i64 s, .slice a len cap, .slice ak ks.length ck] w fun e w' => e = .returned (.bool true) ∧ Below w.heap.size w w' :=
  diskApart_walk w s (bounds_i64 h0) a len cap A hA ak ks ck hk hkl
end Go.Proofs.Ytfgniggppafelaa
