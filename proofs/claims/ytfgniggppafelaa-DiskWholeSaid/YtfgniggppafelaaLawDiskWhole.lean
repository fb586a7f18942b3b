/-
  The statement DiskWhole, walked. No condition but the ranges of the arguments.
-/
import Derived.Test.YtfgniggppafelaaLawW
import Derived.Deep.CutBlock
import Derived.Deep.CutRange
namespace Go.Proofs.Ytfgniggppafelaa
open Go.RowKit Go.Maps Go.Shelf
set_option linter.unusedVariables false
set_option linter.unusedSimpArgs false
attribute [local go_sem ↓] Go.wp_at_zero Go.wp_at_succ

theorem diff37 {S T : Sec} (hS : S.length = 64) (hT : T.length = 64) (h : S ≠ T) (w : World) : (Op.equalIn 10000 37 (.agg (u8s S).toArray) (.agg (u8s T).toArray)).run Try.prog w = .ok false w := by
  have h2 := run_equal_sec w 9998 37 5 Try.underlying37 Try.underlying5 (Try.sizeOf5 w) S T hS hT
  rw [decide_eq_false h] at h2
  exact h2
/-- two exits of a loop over acts -/
theorem act_exit {k len : Nat} (h : ¬ (k < len ∧ k < 100)) : decide (k < len) = false ∨ (decide (k < len) = true ∧ decide ((k : Int) < 100) = false) := by
  by_cases h2 : k < len
  · exact .inr ⟨by simp; omega, by simp; omega⟩
  · exact .inl (by simp; omega)
/-- what a crash leaves of one sector -/
theorem crash_either {F : Nat → Sec} {m : Nat → Option Sec} {ks : List Bool} {i : Nat} {B : Bool} (h : (m i).isSome = true → B = true) :
    crashF F m ks i = F i ∨ (crashF F m ks i ≠ F i ∧ crashF F m ks i = now F m i ∧ B = true) := by
  by_cases e : crashF F m ks i = F i
  · exact .inl e
  · have e2 : crashF F m ks i = now F m i := by
      unfold crashF at e ⊢
      split
      · rfl
      · rename_i h2; rw [if_neg h2] at e; exact absurd rfl e
    refine .inr ⟨e, e2, h ?_⟩
    cases hm : m i with
    | none => rw [e2] at e; exact absurd (by simp [now, hm]) e
    | some S => rfl
set_option maxHeartbeats 8000000 in
set_option maxRecDepth 100000 in
theorem diskWhole_walk (w : World) (s : Int) (hs : -9223372036854775808 ≤ s ∧ s ≤ 9223372036854775807) (a0 : Option Addr) (l0 c0 : Nat) (A0 : Nat → ActD) (a1 : Option Addr) (l1 c1 : Nat) (A1 : Nat → ActD) (hA0 : IsActs w a0 l0 A0) (hA1 : IsActs w a1 l1 A1) (ak : Option Addr) (ks : List Bool) (ck : Nat) (hrk : Ro w w.heap.size ak (bls ks)) (hkl : ks.length ≤ 9223372036854775807) :
    Calls Try.prog 4 #[.int .i64 s, .agg #[.slice a0 l0 c0, .slice a1 l1 c1], .slice ak ks.length ck] w fun e w' => e = .returned (.bool true) ∧ Below w.heap.size w w' := by
  have hcb : Chg [] w (w.alloc (.cells #[.slice a0 l0 c0, .slice a1 l1 c1] 50)) := (Chg.refl [] w).alloc _
  by_cases hr : s < 1 ∨ 60 < s
  · have hcase : decide (s < 1) = true ∨ (decide (s < 1) = false ∧ decide (60 < s) = true) := by
      by_cases h1 : s < 1
      · exact .inl (by simpa using h1)
      · exact .inr ⟨by simpa using h1, by simp; omega⟩
    rcases hcase with h1 | ⟨h1, h2⟩
    all_goals
      go_enter Try.func4, Try.ntmps4
      go_wp2_with (first
        | (go_at_call 10; refine (alive_any _).mono ?_; rintro e w1 ⟨rfl, hc1⟩)
        | fail)
      go_ret
      exact ⟨rfl, (hcb.trans hc1).low⟩
  · obtain ⟨n, rfl⟩ := Int.eq_ofNat_of_zero_le (show 0 ≤ s by omega)
    have hn1 : 1 ≤ n := by omega
    have hn2 : n ≤ 60 := by omega
    have h1 : decide ((n : Int) < 1) = false := by simp; omega
    have h2 : decide ((60 : Int) < (n : Int)) = false := by simp; omega
    have HN := Lib.hid (new_ex (w.alloc (.cells #[.slice a0 l0 c0, .slice a1 l1 c1] 50)) n hn1 (by omega))
    have HA0 := Lib.hid hA0
    have HA1 := Lib.hid hA1
    have hlen0 := hA0.1
    have hlen1 := hA1.1
    have HK := Lib.hid hrk
    clear hr hs hA0 hA1 hrk
    go_enter Try.func4, Try.ntmps4
    go_upto_block 0 with (first
      | (go_at_call 8; refine HN.out.mono ?_; rintro e w1 ⟨p, g, b, rfl, hp', hg', hb', hd1, hc1⟩)
      | fail)
    have hsz0 := hcb.size
    have hp : w.heap.size ≤ p := by omega
    have hg : w.heap.size ≤ g := by omega
    have hb : w.heap.size ≤ b := by omega
    have hgb := hd1.gb
    have hpgb : p ≠ g ∧ p ≠ b := ⟨hd1.pg, hd1.pb⟩
    have HD1 := Lib.hid hd1
    have HC1 := Lib.hid (hcb.trans hc1)
    clear hd1 hc1 hcb hp' hg' hb' hsz0
    go_cut [11] from 49 to 78 (fun _ wr => ∃ m : Nat → Option Sec, Dsk wr p g b n (fun _ => zsec) m ∧ Chg [] w wr)
    case first =>
      go_wp2_with fail
      go_loopw [11] (fun i wr => ∃ (k : Nat) (m : Nat → Option Sec), k ≤ l0 ∧ k ≤ 100 ∧ i = .int .i64 k ∧ Dsk wr p g b n (fun _ => zsec) m ∧ Chg [b] w1 wr) (fun i _ => l0 - (intOf i).toNat)
      case atStart => exact ⟨0, _, Nat.zero_le _, by omega, rfl, HD1.out, Chg.refl _ _⟩
      case round =>
        obtain ⟨k, m, hk, hk100, rfl, hd, hc⟩ := hrel
        have hcw : Chg [] w wr := HC1.out.then hc (by simp; omega)
        have hlow : Below w.heap.size w wr := hcw.low
        by_cases hlt : k < l0 ∧ k < 100
        · obtain ⟨b0, off, rfl, hb0, hat⟩ := HA0.out.at_ (by omega)
          obtain ⟨hok, h0⟩ := hat wr hlow k hlt.1
          have hc1' := h0.c1
          have hc2' := h0.c2
          have hk0 : (0 : Int) ≤ (k : Int) := by omega
          have hk1 : (k : Int) < (l0 : Int) := by omega
          have hk2 : (k : Int) < 100 := by omega
          have hbl := hok.bs
          obtain ⟨B, HB⟩ : ∃ B, Hid (A0 k = B) := ⟨_, Lib.hid rfl⟩
          rw [HB.out] at hc1' hc2' hok hbl
          by_cases hbs : B.bs.length ≤ 100
          · have hbd : decide ((B.bs.length : Int) ≤ 100) = true := by simp; omega
            have HF := Lib.hid (act_fill hok)
            have HWr := Lib.hid (act_write hd B)
            have hst : wr.drew.cell? ⟨b0, off + k * 4 + 1, none⟩ = some (.int .i64 B.i) ∧ wr.drew.cell? ⟨b0, off + k * 4 + 2, none⟩ = some (.slice B.ab B.bs.length B.cb) := ⟨hc1', hc2'⟩
            have hne : b0 ≠ b := by omega
            clear h0 hat hok hd hlow hcw
            go_wp2_with fail
            go_region_held3 (fun w' => w'.cell? ⟨b0, off + k * 4 + 1, none⟩ = some (.int .i64 B.i) ∧ w'.cell? ⟨b0, off + k * 4 + 2, none⟩ = some (.slice B.ab B.bs.length B.cb))
              (first
                | assumption
                | exact hst
                | exact ⟨hc8.cell hc1' (by simp), hc8.cell hc2' (by simp)⟩
                | exact ⟨hc9.cell hc1' (by simpa using hne), hc9.cell hc2' (by simpa using hne)⟩)
              (first
                | (go_at_call 12; (with_reducible refine HF.out.mono ?_); rintro e w8 ⟨rfl, hc8⟩)
                | (go_at_call 11; (with_reducible refine (HWr.out _ hc8).mono ?_); rintro e w9 ⟨rfl, hd9, hc9⟩))
            go_wp2
            go_roundw
            case rel => exact ⟨k + 1, _, by omega, by omega, by go_num, hd9.out, hc.trans hc9⟩
            case measure => simp [intOf]; omega
          · have hbd : decide ((B.bs.length : Int) ≤ 100) = false := by simp; omega
            have HDr := Lib.hid hd
            clear h0 hat hok hd hlow hcw
            go_wp2
            go_roundw
            case rel => exact ⟨k + 1, m, by omega, by omega, by go_num, HDr.out, hc⟩
            case measure => simp [intOf]; omega
        · have hcase := act_exit hlt
          have HM := Lib.hid (And.intro hd hcw)
          clear hd hc hcw hlow hlt
          rcases hcase with hq | ⟨hq, hq2⟩
          all_goals
            go_wp2_with fail
            go_meet
            exact ⟨m, HM.out.1, HM.out.2⟩
    case rest =>
      obtain ⟨m, hdw, hcw⟩ := hcut
      have HFl := Lib.hid (flush_ok _ hdw)
      have HCW := Lib.hid hcw
      clear hdw hcw
      go_wp2_with (first
        | (go_at_call 15; (with_reducible refine HFl.out.mono ?_); rintro e w2 ⟨rfl, hd2, hc2⟩)
        | fail)
      obtain ⟨F, HF⟩ : ∃ F, Hid (now (fun _ => zsec) m = F) := ⟨_, Lib.hid rfl⟩
      rw [HF.out] at hd2
      have HD2 := Lib.hid hd2
      have HC2 := Lib.hid (show Chg [] w w2 from HCW.out.then hc2 (by simp; omega))
      clear hd2 hc2 HFl HCW
      go_loopw [12, 13] (fun v i wr => ∃ k : Nat, k ≤ n ∧ i = .int .i64 k ∧ wr.ownsRow w2.heap.size 37 64 v k (rows F k) ∧ Chg [] w2 wr) (fun _ i _ => n - (intOf i).toNat)
      case atStart => exact ⟨0, Nat.zero_le _, rfl, World.ownsRow_nil _ _ _ _, Chg.refl _ _⟩
      case round =>
        obtain ⟨k2, hk2, rfl, hown, hcr⟩ := hrel
        by_cases hl2 : k2 < n
        · have hdt : decide (k2 < n) = true := by simpa using hl2
          have HR := Lib.hid (read_at HD2.out hl2 (now_none F k2))
          have hSl : (F k2).length = 64 := HD2.out.lenF k2
          obtain ⟨S, HS⟩ : ∃ S, Hid (F k2 = S) := ⟨_, Lib.hid rfl⟩
          have hR2 := HR.out
          rw [HS.out] at hR2 hSl
          have HR2 := Lib.hid hR2
          have HO := Lib.hid hown
          have hcs := hcr.size
          clear HR hR2 hown
          go_wp2_with (first
            | (go_at_call 20; (with_reducible refine (HR2.out _ hcr).mono ?_); rintro e wa ⟨rfl, hca⟩)
            | (refine wpList_alloc37 rfl rfl ?_)
            | (refine wpList_laid rfl _ _ rfl S rfl rfl rfl hSl ?_; intro wb hrb hcb)
            | (refine wpList_load37 rfl _ rfl _ 0 rfl S hrb hSl ?_)
            | (refine wpList_slice1 rfl _ rfl S rfl hSl ?_)
            | (refine wpList_appS rfl _ _ rfl w2.heap.size k2 F S _ rfl rfl rfl (HO.out.kept ((hca.trans hcb).grownBy0 none) (Classical.em _)) hSl HS.out (by omega) (by have := (hca.trans hcb).size; omega) ?_; intro v' wc hown' hgr)
            | fail)
          go_roundw
          case rel => exact ⟨k2 + 1, by omega, by go_num, hown'.out, ((hcr.trans (hca.trans hcb)).alloc _).grown hgr (fun k hk => .inr (HO.out.lt k hk).1)⟩
          case measure => simp [intOf]; omega
        · have hdt : decide (k2 < n) = false := by simpa using hl2
          have hkn : k2 = n := by omega
          rw [hkn] at hown
          obtain ⟨go, co, rfl, hgo, hro⟩ := open_old HD2.out.lenF hown hn1
          have hmb := fun w => make_bl w n (by omega)
          have hBl0 := blAt_made wr n 4
          have hCb : Chg [] wr (wr.alloc (.cells (madeCells #[.bool false] n) 4)) := (Chg.refl [] wr).alloc _
          have hd2 := (HD2.out.kept hcr).kept hCb
          have hR2 := hro.keep hCb (by simp)
          have hcw2 := HC2.out.trans (hcr.trans hCb)
          have hsz := hcr.size
          have hpl := (HD2.out).ltp
          have hgl := (HD2.out).ltg
          have hbl := (HD2.out).ltb
          have hgol := hro.ltf (by omega)
          have hsz2 := HC2.out.size
          obtain ⟨ab, HAB⟩ : ∃ ab, Hid (wr.heap.size = ab) := ⟨_, Lib.hid rfl⟩
          have hab : w.heap.size ≤ ab ∧ ab ≠ p ∧ ab ≠ g ∧ ab ≠ b ∧ ab ≠ go ∧ go ≠ b := by have := HAB.out; omega
          obtain ⟨w3, HW3⟩ : ∃ w3, Hid (wr.alloc (.cells (madeCells #[.bool false] n) 4) = w3) := ⟨_, Lib.hid rfl⟩
          rw [HAB.out] at hBl0
          rw [HW3.out] at hBl0 hd2 hR2 hcw2
          have H3 := Lib.hid (And.intro hBl0 (And.intro hd2 (And.intro hR2 hcw2)))
          clear hBl0 hCb hd2 hR2 hcw2 hown hcr hro hkn hsz hpl hgl hbl hgol hsz2 hgo
          go_wp2_with fail
          rw [HAB.out, HW3.out]
          clear hmb
          go_loopw [17] (fun i wr => ∃ (k : Nat) (m : Nat → Option Sec) (B : Nat → Bool), k ≤ l1 ∧ k ≤ 100 ∧ i = .int .i64 k ∧ Dsk wr p g b n F m ∧ BlAt wr ab n B ∧ (∀ j, (m j).isSome = true → B j = true) ∧ Chg [b, ab] w3 wr) (fun i _ => l1 - (intOf i).toNat)
          case atStart => exact ⟨0, _, _, Nat.zero_le _, by omega, rfl, H3.out.2.1, H3.out.1, fun j h => (by cases h), Chg.refl _ _⟩
          case round =>
            obtain ⟨k3, m3, Bm, hk3, hk3', rfl, hd, hBl, hmB, hc⟩ := hrel
            have hcw : Chg [] w wr := H3.out.2.2.2.then hc (by simp; omega)
            have hlow : Below w.heap.size w wr := hcw.low
            by_cases hlt : k3 < l1 ∧ k3 < 100
            · obtain ⟨b0, off, rfl, hb0, hat⟩ := HA1.out.at_ (by omega)
              obtain ⟨hok, h0⟩ := hat wr hlow k3 hlt.1
              have hc1' := h0.c1
              have hc2' := h0.c2
              have hk0 : (0 : Int) ≤ (k3 : Int) := by omega
              have hk1 : (k3 : Int) < (l1 : Int) := by omega
              have hk2 : (k3 : Int) < 100 := by omega
              have hbl := hok.bs
              obtain ⟨B, HB⟩ : ∃ B, Hid (A1 k3 = B) := ⟨_, Lib.hid rfl⟩
              rw [HB.out] at hc1' hc2' hok hbl
              have hne : b0 ≠ b ∧ b0 ≠ ab := by omega
              by_cases hbs : B.bs.length ≤ 100
              · have hbd : decide ((B.bs.length : Int) ≤ 100) = true := by simp; omega
                have HFi := Lib.hid (act_fill hok)
                have HWr := act_write hd B
                obtain ⟨bi, HBI⟩ : ∃ x, Hid (B.i = x) := ⟨_, Lib.hid rfl⟩
                rw [HBI.out] at HWr hc1'
                have hst : wr.drew.cell? ⟨b0, off + k3 * 4 + 1, none⟩ = some (.int .i64 bi) ∧ wr.drew.cell? ⟨b0, off + k3 * 4 + 2, none⟩ = some (.slice B.ab B.bs.length B.cb) := ⟨hc1', hc2'⟩
                have HBl := Lib.hid (And.intro hBl hmB)
                by_cases hin : 0 ≤ bi ∧ bi < n
                · rw [werr_in hin] at HWr
                  obtain ⟨j, rfl⟩ := Int.eq_ofNat_of_zero_le hin.1
                  have hjn : j < n := by omega
                  have hj1 : (j : Int) < (n : Int) := by omega
                  have hj0 : (0 : Int) ≤ (j : Int) := by omega
                  simp only [updI_nat hjn] at HWr
                  have HWr' := Lib.hid HWr
                  clear HWr h0 hat hok hd hlow hcw hBl hmB hin
                  go_wp2_with fail
                  go_region_held3 (fun w' => w'.cell? ⟨b0, off + k3 * 4 + 1, none⟩ = some (.int .i64 (j : Int)) ∧ w'.cell? ⟨b0, off + k3 * 4 + 2, none⟩ = some (.slice B.ab B.bs.length B.cb))
                    (first
                      | assumption
                      | exact hst
                      | exact ⟨hc8.cell hc1' (by simp), hc8.cell hc2' (by simp)⟩
                      | exact ⟨hc9.cell hc1' (by simpa using hne.1), hc9.cell hc2' (by simpa using hne.1)⟩)
                    (first
                      | (go_at_call 12; (with_reducible refine HFi.out.mono ?_); rintro e w8 ⟨rfl, hc8⟩)
                      | (go_at_call 11; (with_reducible refine (HWr'.out _ hc8).mono ?_); rintro e w9 ⟨rfl, hd9, hc9⟩))
                  have hBl9 := HBl.out.1.keep (by omega) hc9 (by simp; omega)
                  have hcl := hBl9.cell j hjn
                  have hfz := hBl9.free j
                  have HB9 := Lib.hid hBl9
                  clear hBl9 hst
                  go_wp2
                  go_roundw
                  case rel =>
                    refine ⟨k3 + 1, _, _, by omega, by omega, by go_num, hd9.out.keep ((Chg.refl [ab] w9).setCell (by simp) _) (by simp; omega) (by simp; omega) (by simp; omega), HB9.out.set j hjn true, fun x hx => ?_, (hc.then hc9 (by simp)).setCell (by simp) _⟩
                    by_cases e : x = j
                    · rw [if_pos e]
                    · rw [if_neg e]
                      refine HBl.out.2 x ?_
                      unfold upd at hx
                      rwa [if_neg e] at hx
                  case measure => simp [intOf]; omega
                · rw [werr_out hin] at HWr
                  simp only [show ∀ S, updI n m3 bi S = m3 from fun S => if_neg hin] at HWr
                  have HWr' := Lib.hid HWr
                  clear HWr h0 hat hok hd hlow hcw hBl hmB
                  go_wp2_with fail
                  go_region_held3 (fun w' => w'.cell? ⟨b0, off + k3 * 4 + 1, none⟩ = some (.int .i64 bi) ∧ w'.cell? ⟨b0, off + k3 * 4 + 2, none⟩ = some (.slice B.ab B.bs.length B.cb))
                    (first
                      | assumption
                      | exact hst
                      | exact ⟨hc8.cell hc1' (by simp), hc8.cell hc2' (by simp)⟩
                      | exact ⟨hc9.cell hc1' (by simpa using hne.1), hc9.cell hc2' (by simpa using hne.1)⟩)
                    (first
                      | (go_at_call 12; (with_reducible refine HFi.out.mono ?_); rintro e w8 ⟨rfl, hc8⟩)
                      | (go_at_call 11; (with_reducible refine (HWr'.out _ hc8).mono ?_); rintro e w9 ⟨rfl, hd9, hc9⟩))
                  clear hst
                  go_wp2
                  go_roundw
                  case rel => exact ⟨k3 + 1, _, _, by omega, by omega, by go_num, hd9.out, HBl.out.1.keep (by omega) hc9 (by simp; omega), HBl.out.2, hc.then hc9 (by simp)⟩
                  case measure => simp [intOf]; omega
              · have hbd : decide ((B.bs.length : Int) ≤ 100) = false := by simp; omega
                have HBl := Lib.hid (And.intro hd (And.intro hBl hmB))
                clear h0 hat hok hd hlow hcw hBl hmB
                go_wp2_with fail
                go_quiet (fail)
                go_wp2
                go_roundw
                case rel => exact ⟨k3 + 1, _, _, by omega, by omega, by go_num, HBl.out.1.kept ((Chg.refl [] wr).drewN nq), HBl.out.2.1.keep (by omega) ((Chg.refl [] wr).drewN nq) (by simp), HBl.out.2.2, hc.drewN nq⟩
                case measure => simp [intOf]; omega
            · have hcase2 := act_exit hlt
              have HCr := Lib.hid (crash_ok wr hd ak ks ck w.heap.size (HK.out.below hlow (Nat.le_refl _)) hlow.size hkl)
              have HRo := Lib.hid (show ∀ W, Chg [] wr W → Ro W w.heap.size ak (bls ks) ∧ w.heap.size ≤ W.heap.size from fun W hW => ⟨HK.out.below (hcw.trans hW).low (Nat.le_refl _), (hcw.trans hW).size⟩)
              have HO := Lib.hid (And.intro hd (And.intro hBl (And.intro hmB (And.intro hcw (H3.out.2.2.1.keep hc (by simp; omega))))))
              clear hd hBl hmB hc hcw hlow hlt
              rcases hcase2 with hqq | ⟨hqq, hqq2⟩
              all_goals
                go_wp2_with (first
                  | (go_at_call 17; (with_reducible refine HCr.out.mono ?_); rintro e w5 ⟨p2, g2, b2, rfl, hp2, hg2, hb2, hx5, hc5⟩)
                  | (go_at_call 17; (with_reducible refine (crash_ok _ hx5 ak ks ck _ (HRo.out _ hc5).1 (HRo.out _ hc5).2 hkl).mono ?_); rintro e w6 ⟨p3, g3, b3, rfl, hp3, hg3, hb3, hy6, hc6⟩)
                  | (go_at_call 22; (with_reducible refine (dirty_any _ (hx5.kept hc6) 0 (dirtyL_none n)).mono ?_); rintro e w7 ⟨ad, cd, rfl, hc7⟩)
                  | fail)
                have hc57 := hc5.trans (hc6.trans hc7)
                have hd7 := HO.out.1.kept hc57
                have hx7 := hx5.kept (hc6.trans hc7)
                have hy7 := hy6.kept hc7
                have HRd := Lib.hid (show ∀ k, k < n → ∀ W, Chg [] w7 W → _ from fun k hk => read_at hd7 hk rfl)
                have HRx := Lib.hid (show ∀ k, k < n → ∀ W, Chg [] w7 W → _ from fun k hk => read_at hx7 hk (now_none _ k))
                have HRy := Lib.hid (show ∀ k, k < n → ∀ W, Chg [] w7 W → _ from fun k hk => read_at hy7 hk ((now_none _ k).trans (crashF_clean _ ks k)))
                have HLen := Lib.hid (show ∀ k, (now F m3 k).length = 64 ∧ (crashF F m3 ks k).length = 64 ∧ (F k).length = 64 from fun k => ⟨hd7.lenN k, hx7.lenF k, hd7.lenF k⟩)
                have HR7 := Lib.hid (And.intro (HO.out.2.1.keep (by omega) hc57 (by simp)) (And.intro (HO.out.2.2.2.2.keep hc57 (by simp)) (HO.out.2.2.2.1.trans hc57)))
                clear hd7 hx7 hy7 hc57 hc5 hc6 hc7 hx5 hy6 HCr hp2 hg2 hb2 hp3 hg3 hb3
                go_loopw [20] (fun i wi => ∃ k : Nat, k ≤ n ∧ i = .int .i64 k ∧ Chg [] w7 wi) (fun i _ => n - (intOf i).toNat)
                case atStart => exact ⟨0, Nat.zero_le _, rfl, Chg.refl _ _⟩
                case round =>
                  obtain ⟨k4, hk4, rfl, hci⟩ := hrel
                  by_cases hl4 : k4 < n
                  · have hdt4 : decide (k4 < n) = true := by simpa using hl4
                    have hj0 : (0 : Int) ≤ (k4 : Int) := by omega
                    have hj1 : (k4 : Int) < (n : Int) := by omega
                    obtain ⟨hl1', hl2', hl3'⟩ := HLen.out k4
                    have HR1 := HRd.out k4 hl4
                    have HR2 := HRx.out k4 hl4
                    have HR3 := HRy.out k4 hl4
                    have hcas := crash_either (F := F) (ks := ks) (HO.out.2.2.1 k4)
                    have hrow := HR7.out.2.1.rng k4 hl4
                    have hcell := HR7.out.1.cell k4 hl4
                    generalize Bm k4 = bk at *
                    generalize now F m3 k4 = T1 at *
                    generalize crashF F m3 ks k4 = T2 at *
                    generalize F k4 = To at *
                    have HR1' := Lib.hid HR1
                    have HR2' := Lib.hid HR2
                    have HR3' := Lib.hid HR3
                    clear HR1 HR2 HR3
                    have hq2 := same37 T2 hl2'
                    have hcell4 := hci.cell hcell (by simp)
                    have hrow4 := hci.range hrow (by simp)
                    have tok1 : True := trivial
                    have tok2 : True := trivial
                    have hcas3 : (T2 = To ∧ bk = false) ∨ (T2 = To ∧ bk = true) ∨ (T2 ≠ To ∧ T2 = T1 ∧ bk = true) := by
                      rcases hcas with h | h
                      · cases bk
                        · exact .inl ⟨h, rfl⟩
                        · exact .inr (.inl ⟨h, rfl⟩)
                      · exact .inr (.inr h)
                    clear hcas hcell hrow
                    rcases hcas3 with ⟨h, hb⟩ | ⟨h, hb⟩ | ⟨hnq, h, hb⟩
                    case' inr.inr =>
                      have hq3 := diff37 hl2' hl3' hnq
                      clear hnq
                    all_goals
                      subst h
                      subst hb
                      go_wp2_with (first
                        | (go_at_call 20; (with_reducible refine (HR1'.out _ hci).mono ?_); rintro e wa ⟨rfl, hca⟩)
                        | (go_at_call 20; (with_reducible refine (HR2'.out _ (hci.trans (hca.trans hcb))).mono ?_); rintro e wc ⟨rfl, hcc⟩)
                        | (go_at_call 20; (with_reducible refine (HR3'.out _ (hci.trans ((hca.trans hcb).trans (hcc.trans hcd)))).mono ?_); rintro e we ⟨rfl, hce⟩)
                        | (refine wpList_alloc37 rfl rfl ?_)
                        | (have _t := tok1; refine wpList_laid rfl _ _ rfl _ rfl rfl rfl hl1' ?_; intro wb hrb hcb; clear tok1)
                        | (have _t := tok2; refine wpList_laid rfl _ _ rfl T2 rfl rfl rfl hl2' ?_; intro wd hrd hcd; clear tok2)
                        | (refine wpList_laid rfl _ _ rfl T2 rfl rfl rfl hl2' ?_; intro wf hrf hcf)
                        | fail)
                      have hcbf : Chg [] wb wf := (hcc.trans hcd).trans (hce.trans hcf)
                      have hcrf : Chg [] wr wf := (hca.trans hcb).trans hcbf
                      have hcif : Chg [] w7 wf := hci.trans hcrf
                      have hrbf := hcbf.range hrb (by simp)
                      have hrdf := (hce.trans hcf).range hrd (by simp)
                      have hrowf := hcrf.range hrow4 (by simp)
                      have hcellf := hcrf.cell hcell4 (by simp)
                      clear hrb hrd hca hcb hcc hcd hce hcf hcbf hcrf hci hrow4 hcell4
                      refine wp_region_quiet_lit (by kernel_rfl) (by kernel_rfl) ?_
                      repeat (first
                        | go_big_quiet_skip
                        | ((first
                            | refine wpQuiet_load37 _ rfl _ _ rfl _ hrdf hl2' rfl ?_
                            | refine wpQuiet_load37 _ rfl _ _ rfl _ hrowf hl3' rfl ?_
                            | refine wpQuiet_load37 _ rfl _ _ rfl _ hrbf hl1' rfl ?_
                            | refine wpQuiet_load37 _ rfl _ _ rfl _ hrf hl2' rfl ?_); simp only [Act.put, List.setIfInBounds_toArray, List.set_cons_zero, List.set_cons_succ])
                        | go_big_quiet_step (fail))
                      refine wpQuiet_nil ?_
                      intro _ hw'
                      obtain ⟨nq, hw''⟩ := hw'
                      subst hw''
                      go_wp2
                      go_roundw
                      case rel => exact ⟨k4 + 1, by omega, by go_num, hcif.drewN nq⟩
                      case measure => simp [intOf]; omega
                  · have hdt4 : decide (k4 < n) = false := by simpa using hl4
                    go_wp2_with (first
                      | (go_at_call 10; refine (alive_any _).mono ?_; rintro e wa ⟨rfl, hca⟩)
                      | fail)
                    go_ret
                    exact ⟨rfl, (HR7.out.2.2.trans (hci.trans hca)).low⟩
theorem diskWhole_row (w : World) {s : Int} {a0 : Option Addr} {l0 c0 : Nat} {A0 : Nat → ActD} {a1 : Option Addr} {l1 c1 : Nat} {A1 : Nat → ActD} {ak : Option Addr} {ks : List Bool} {ck : Nat} (h0 : (Lit.int .i64 s).wf = true) (hA0 : IsActs w a0 l0 A0) (hA1 : IsActs w a1 l1 A1) (hk : Ro w w.heap.size ak (bls ks)) (hkl : ks.length ≤ 9223372036854775807) :
    Calls Try.prog 4 #[.int .i64 s, .agg #[.slice a0 l0 c0, .slice a1 l1 c1], .slice ak ks.length ck] w fun e w' => e = .returned (.bool true) ∧ Below w.heap.size w w' :=
  diskWhole_walk w s (bounds_i64 h0) a0 l0 c0 A0 a1 l1 c1 A1 hA0 hA1 ak ks ck hk hkl
end Go.Proofs.Ytfgniggppafelaa
