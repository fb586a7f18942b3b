/-
  The statement TapeOpens, walked: what is committed is what Open finds. No condition but the ranges of the arguments.
-/
import Derived.Test.YtdiemejdbakffaaStB
namespace Go.Proofs.Ytdiemejdbakffaa
open Go.RowKit Go.Maps Go.Shelf
set_option linter.unusedVariables false
set_option linter.unusedSimpArgs false

/-- no step under way, and the disk as it should be -/
structure Co (n : Nat) (S : TS) : Prop where
  k : S.k = 0
  d : DInv n S
theorem Co.start (n : Nat) : Co n (calm (fun _ => zsec) (fun _ => none) 0 []) := ⟨rfl, ⟨fun _ => ⟨rfl, opens_zero n⟩, fun h => by simp [calm] at h, fun h => by simp [calm] at h, fun h => by simp [calm] at h⟩⟩
theorem Co.app {n : Nat} {S : TS} (c : Co n S) (r : Rec) : Co n (appS n S r) := ⟨c.k, ⟨fun _ => c.d.k0 c.k, fun h => by have : S.k = 1 := h; have := c.k; omega, fun h => by have : S.k = 2 := h; have := c.k; omega, fun h => by have : S.k = 3 := h; have := c.k; omega⟩⟩
theorem Co.repl {n : Nat} {S : TS} (c : Co n S) (xs : List SB) : Co n (replS n S xs) := ⟨c.k, ⟨fun _ => c.d.k0 c.k, fun h => by have : S.k = 1 := h; have := c.k; omega, fun h => by have : S.k = 2 := h; have := c.k; omega, fun h => by have : S.k = 3 := h; have := c.k; omega⟩⟩
theorem Co.commit {n : Nat} {S : TS} (c : Co n S) (s : SInv n S) (s' : SInv n (commitS n S)) : Co n (commitS n S) ∧ (commitS n S).idle ∧ (commitS n S).L' = (commitS n S).L := by
  by_cases hi : S.idle
  · have e : commitS n S = S := by unfold commitS; rw [if_pos hi]
    rw [e]
    obtain ⟨W, hW⟩ := s.pre hi.1
    have h2 := hi.2
    rw [hW, List.length_append] at h2
    have : W = [] := List.eq_nil_of_length_eq_zero (by omega)
    subst this
    rw [List.append_nil] at hW
    exact ⟨c, hi, hW⟩
  · obtain ⟨hm, ho⟩ := c.d.k0 c.k
    have hF' := s'.lenF
    rw [commit_k0 hi c.k, hm] at hF' ⊢
    have hR1 : ∀ i, (now S.F (wfM n S.h S.h' S.L S.L' fun _ => none) i).length = 64 := fun i => by
      rw [now_wf]
      split
      · exact fillS_len _
      · exact s.lenF i
    have mid := mid_opens s.lenF hR1 ho s.pre s.half' s.room' fun x => .inr rfl
    have hh := mid_has s.lenF ho s.pre
    refine ⟨⟨rfl, ⟨fun _ => ⟨rfl, sup_opens hF' mid hh s.half' s.ok' s.room' (by simp [now, upd]) (fun x hx => by simp [now, upd, hx])⟩, fun h => by simp at h, fun h => by simp at h, fun h => by simp at h⟩⟩, ⟨rfl, rfl⟩, rfl⟩
theorem Tz.dsk {w0 w : World} {N : List Nat} {q p g b n : Nat} {S : TS} (t : Tz w0 w N q p g b n S) : Dsk w p g b n S.F S.m := t.elim fun l h => h.td.dsk
theorem Tz.three {w0 w : World} {N : List Nat} {q p g b n : Nat} {S : TS} (t : Tz w0 w N q p g b n S) : 3 ≤ n := t.elim fun l h => h.td.three
/-- Open of a disk with nothing under way -/
theorem open_Z {w0 w : World} {N : List Nat} {q p g b n : Nat} {S : TS} (t : Tz w0 w N q p g b n S) (c : Co n S) :
    Calls Try.prog 10 #[.pointer (some ⟨p, 0, none⟩)] w fun e w' => ∃ q2 N2, e = .returned (.tuple #[.pointer (some ⟨q2, 0, none⟩), .int .i64 0]) ∧ Hid (Tz w' w' N2 q2 p g b n (calm S.F S.m S.h S.L)) ∧ Chg [] w w' := by
  have hn : now S.F S.m = S.F := by rw [(c.d.k0 c.k).1]; rfl
  refine (open_at w t.dsk t.three (h := S.h) (L := S.L) (by rw [hn]; exact (c.d.k0 c.k).2)).mono fun e w' h => ?_
  obtain ⟨q2, l, he, ht, _, hc⟩ := h
  exact ⟨q2, l ++ [g, b], he, Lib.hid ⟨l, ht.out, fun x hx => .inl hx, Chg.refl _ _⟩, hc⟩
theorem wait_idle2 {S : TS} (h : S.idle) : waitN S.h S.h' S.L S.L' = 0 := by
  unfold waitN
  rw [if_pos h.1]
  have := h.2
  omega
theorem dirty0n (n : Nat) : (dirtyL n (fun _ => none)).length = 0 := by simp [dirtyL]
set_option maxHeartbeats 16000000 in
set_option maxRecDepth 100000 in
theorem tapeOpens_walk (w : World) (z : Int) (a a' : Option Addr) (xs ys : List SB) (c c' : Nat) (hz : -9223372036854775808 ≤ z ∧ z ≤ 9223372036854775807) (hx : RoM w a xs) (hy : RoM w a' ys) :
    Calls Try.prog 6 #[.int .i64 z, .slice a xs.length c, .slice a' ys.length c'] w fun e w' => e = .returned (.bool true) ∧ Chg [] w w' := by
  by_cases hout : z < 3 ∨ 60 < z
  · clear hx hy
    generalize xs.length = N
    generalize ys.length = N'
    by_cases h3 : z < 3
    · have d1 : decide (z < 3) = true := by simpa using h3
      clear hout hz
      go_enter Try.func6, Try.ntmps6
      go_wp2_with (first | (go_at_call 8; refine (alive_any _).mono ?_; rintro e w2 ⟨rfl, hc2⟩) | fail)
      go_ret
      exact ⟨rfl, hc2⟩
    · have d1 : decide (z < 3) = false := by simpa using h3
      have h6 : 60 < z := by omega
      have d2 : decide (60 < z) = true := by simpa using h6
      clear hout hz
      go_enter Try.func6, Try.ntmps6
      go_wp2_with (first | (go_at_call 8; refine (alive_any _).mono ?_; rintro e w2 ⟨rfl, hc2⟩) | fail)
      go_ret
      exact ⟨rfl, hc2⟩
  · obtain ⟨n, rfl⟩ : ∃ n : Nat, z = (n : Int) := ⟨z.toNat, by omega⟩
    have h3 : 3 ≤ n := by omega
    have h60 : n ≤ 60 := by omega
    have d1 : decide ((n : Int) < 3) = false := by simp; omega
    have d2 : decide ((60 : Int) < (n : Int)) = false := by simp; omega
    have d1' : decide (n < 3) = false := by simp; omega
    have d2' : decide (60 < n) = false := by simp; omega
    have H0 := Lib.hid (new_ex w n (by omega) (by omega))
    have HX := Lib.hid hx
    have HY := Lib.hid hy
    obtain ⟨N, HN⟩ : ∃ N, Hid (xs.length = N) := ⟨_, Lib.hid rfl⟩
    obtain ⟨N', HN'⟩ : ∃ N, Hid (ys.length = N) := ⟨_, Lib.hid rfl⟩
    have hN := hx.len
    have hN' := hy.len
    rw [HN.out] at hN ⊢
    rw [HN'.out] at hN' ⊢
    clear hx hy hout hz
    go_enter Try.func6, Try.ntmps6
    go_wp2_with fail
    refine H0.out.mono ?_
    rintro e w1 ⟨p, g, b, rfl, hp, hg, hb, hd1, hc1⟩
    have H1 := Lib.hid (open_at w1 hd1 (by omega) (h := 0) (L := []) (opens_zero n))
    clear hd1
    go_wp2_with fail
    refine H1.out.mono ?_
    rintro e w2 ⟨q, l, rfl, ht2, hl2, hc2⟩
    have HT := Lib.hid (Tz.start hp hg hb hc1 ht2.out hl2.out hc2)
    have hyk : RoM w2 a' ys := ⟨(HY.out.row.chgs HT.out.chg (by simp)).mono HT.out.chg.size, fun x hx => ((HY.out.el x hx).chgs HT.out.chg (by simp)).mono HT.out.chg.size, HY.out.len, HY.out.lens⟩
    have hft := fits_any w2 0 0 none 0 0 a' ys c' none 0 0 hyk
    rw [show decide (fitsL ys ∧ 0 ≤ 400) = decide (fitsL ys) from by simp, HN'.out] at hft
    clear ht2 hl2 hc2 hc1 H0 H1 hyk
    by_cases hfit : fitsL ys
    · rw [decide_eq_true hfit] at hft
      have HFT := Lib.hid hft
      have HFIT := Lib.hid hfit
      clear hft hfit
      go_wp2_with (first | (go_at_call 14; refine HFT.out.mono ?_; rintro e w3 ⟨rfl, hc3⟩) | fail)
      have HT3 := Lib.hid (HT.out.kept hc3)
      clear HT HFT hc3
      go_loopw [12] (fun i wr => ∃ k : Nat, k ≤ N ∧ k ≤ 60 ∧ i = .int .i64 k ∧ ∃ S, Hid (Tz w wr [] q p g b n S) ∧ Hid (Co n S)) (fun i _ => N - (intOf i).toNat)
      case atStart => exact ⟨0, by omega, by omega, rfl, _, HT3, Lib.hid (Co.start n)⟩
      case round =>
        obtain ⟨k, hk, hk60, rfl, S, HTZ, HCO⟩ := hrel
        by_cases hlt : k < N ∧ k < 60
        · have hkx : k < xs.length := by rw [HN.out]; exact hlt.1
          obtain ⟨bb, off, rfl, hbb, hcx⟩ := HX.out.at_ hkx
          have hcell0 := hcx k hkx
          unfold SB.val at hcell0
          have HEL := Lib.hid (HX.out.el _ (List.getElem_mem hkx))
          have hlen0 := HX.out.lens _ (List.getElem_mem hkx)
          clear hcx
          generalize xs[k] = x at *
          obtain ⟨N1, HN1⟩ : ∃ M, Hid (x.bs.length = M) := ⟨_, Lib.hid rfl⟩
          rw [HN1.out] at hcell0 hlen0
          have hcell := HTZ.out.chg.cell hcell0 (by simp)
          have hap := append_Z HTZ.out x.a x.bs x.c HEL.out (by simp)
          rw [HN1.out] at hap
          have HAP := Lib.hid hap
          have hd1 : decide (k < N) = true := by simpa using hlt.1
          have hd2 : decide (k < 60) = true := by simpa using hlt.2
          have hd3 : (k : Int) < (N : Int) := by omega
          have hd4 : (k : Int) < 60 := by omega
          clear hcell0 hlt hkx hap
          by_cases h400 : N1 ≤ 400
          · have e4 : decide (N1 ≤ 400) = true := by simpa using h400
            have e5 : (N1 : Int) ≤ 400 := by omega
            clear h400
            by_cases h4 : k % 4 = 3
            · have e6 : ((k : Int) % 4 == 3) = true := by simp; omega
              by_cases h16 : k % 16 = 15
              · have e7 : ((k : Int) % 16 == 15) = true := by simp; omega
                clear h4 h16
                go_wp2_with fail
                refine HAP.out.mono ?_
                rintro e w5 ⟨rfl, HT5⟩
                have HC5 := Lib.hid (HCO.out.app x.bs)
                clear HAP
                have H6 := Lib.hid (commit_Z HT5.out)
                go_wp2_with fail
                refine H6.out.mono ?_
                rintro e w16 ⟨rfl, HT6⟩
                have HC6 := Lib.hid (HC5.out.commit HT5.out.inv HT6.out.inv).1
                clear H6
                have hrp := replace_Z HT6.out a' ys c' (HY.out.rol (fun x hx => by have := HFIT.out.2 x hx; omega)) ⟨fun _ _ _ => by simp, fun _ _ _ _ _ => by simp⟩ (by have := HFIT.out.1; omega)
                rw [HN'.out] at hrp
                have HRP := Lib.hid hrp
                clear hrp
                go_wp2_with fail
                refine HRP.out.mono ?_
                rintro e w7 ⟨rfl, HT7⟩
                have HC7 := Lib.hid (HC6.out.repl (n := n) ys)
                clear HRP
                have H8 := Lib.hid (commit_Z HT7.out)
                go_wp2_with fail
                refine H8.out.mono ?_
                rintro e w18 ⟨rfl, HT8⟩
                have HC8 := Lib.hid (HC7.out.commit HT7.out.inv HT8.out.inv).1
                clear H8
                go_wp2_with fail
                go_roundw
                case rel => exact ⟨k + 1, by omega, by omega, by go_num, _, HT8, HC8⟩
                case measure => simp [intOf]; omega
              · have e7 : ((k : Int) % 16 == 15) = false := by simp; omega
                clear h4 h16
                go_wp2_with fail
                refine HAP.out.mono ?_
                rintro e w5 ⟨rfl, HT5⟩
                have HC5 := Lib.hid (HCO.out.app x.bs)
                clear HAP
                have H6 := Lib.hid (commit_Z HT5.out)
                go_wp2_with fail
                refine H6.out.mono ?_
                rintro e w16 ⟨rfl, HT6⟩
                have HC6 := Lib.hid (HC5.out.commit HT5.out.inv HT6.out.inv).1
                clear H6
                go_wp2_with fail
                go_roundw
                case rel => exact ⟨k + 1, by omega, by omega, by go_num, _, HT6, HC6⟩
                case measure => simp [intOf]; omega
            · have e6 : ((k : Int) % 4 == 3) = false := by simp; omega
              have e7 : ((k : Int) % 16 == 15) = false := by simp; omega
              clear h4
              go_wp2_with fail
              refine HAP.out.mono ?_
              rintro e w5 ⟨rfl, HT5⟩
              have HC5 := Lib.hid (HCO.out.app x.bs)
              clear HAP
              go_wp2_with fail
              go_roundw
              case rel => exact ⟨k + 1, by omega, by omega, by go_num, _, HT5, HC5⟩
              case measure => simp [intOf]; omega
          · have e4 : decide (N1 ≤ 400) = false := by simpa using h400
            have e5 : ¬ ((N1 : Int) ≤ 400) := by omega
            clear h400
            by_cases h4 : k % 4 = 3
            · have e6 : ((k : Int) % 4 == 3) = true := by simp; omega
              by_cases h16 : k % 16 = 15
              · have e7 : ((k : Int) % 16 == 15) = true := by simp; omega
                clear h4 h16
                have H6 := Lib.hid (commit_Z HTZ.out)
                go_wp2_with fail
                refine H6.out.mono ?_
                rintro e w16 ⟨rfl, HT6⟩
                have HC6 := Lib.hid (HCO.out.commit HTZ.out.inv HT6.out.inv).1
                clear H6
                have hrp := replace_Z HT6.out a' ys c' (HY.out.rol (fun x hx => by have := HFIT.out.2 x hx; omega)) ⟨fun _ _ _ => by simp, fun _ _ _ _ _ => by simp⟩ (by have := HFIT.out.1; omega)
                rw [HN'.out] at hrp
                have HRP := Lib.hid hrp
                clear hrp
                go_wp2_with fail
                refine HRP.out.mono ?_
                rintro e w7 ⟨rfl, HT7⟩
                have HC7 := Lib.hid (HC6.out.repl (n := n) ys)
                clear HRP
                have H8 := Lib.hid (commit_Z HT7.out)
                go_wp2_with fail
                refine H8.out.mono ?_
                rintro e w18 ⟨rfl, HT8⟩
                have HC8 := Lib.hid (HC7.out.commit HT7.out.inv HT8.out.inv).1
                clear H8
                go_wp2_with fail
                go_roundw
                case rel => exact ⟨k + 1, by omega, by omega, by go_num, _, HT8, HC8⟩
                case measure => simp [intOf]; omega
              · have e7 : ((k : Int) % 16 == 15) = false := by simp; omega
                clear h4 h16
                have H6 := Lib.hid (commit_Z HTZ.out)
                go_wp2_with fail
                refine H6.out.mono ?_
                rintro e w16 ⟨rfl, HT6⟩
                have HC6 := Lib.hid (HCO.out.commit HTZ.out.inv HT6.out.inv).1
                clear H6
                go_wp2_with fail
                go_roundw
                case rel => exact ⟨k + 1, by omega, by omega, by go_num, _, HT6, HC6⟩
                case measure => simp [intOf]; omega
            · have e6 : ((k : Int) % 4 == 3) = false := by simp; omega
              have e7 : ((k : Int) % 16 == 15) = false := by simp; omega
              clear h4
              go_wp2_with fail
              go_roundw
              case rel => exact ⟨k + 1, by omega, by omega, by go_num, _, HTZ, HCO⟩
              case measure => simp [intOf]; omega
        · by_cases hkN : k < N
          · have hd1 : decide (k < N) = true := by simpa using hkN
            have hd2 : decide (k < 60) = false := by simp; omega
            have hd3 : (k : Int) < (N : Int) := by omega
            have hd4 : ¬ ((k : Int) < 60) := by omega
            clear hkN hlt
            have H1 := Lib.hid (commit_Z HTZ.out)
            go_wp2_with fail
            refine H1.out.mono ?_
            rintro e w4 ⟨rfl, HT4⟩
            have HC4 := Lib.hid (HCO.out.commit HTZ.out.inv HT4.out.inv).1
            have H2 := Lib.hid (commit_Z HT4.out)
            clear H1 HTZ HCO
            go_wp2_with fail
            refine H2.out.mono ?_
            rintro e w5 ⟨rfl, HT5⟩
            have hc5 := HC4.out.commit HT4.out.inv HT5.out.inv
            obtain ⟨S5, HS5⟩ : ∃ X, Hid (commitS n (commitS n S) = X) := ⟨_, Lib.hid rfl⟩
            rw [HS5.out] at hc5 HT5
            have HC5 := Lib.hid hc5.1
            have HI5 := Lib.hid hc5.2
            have hst := step_Z HT5.out
            rw [show doneS S5 = true from by unfold doneS; rw [decide_eq_true hc5.2.1]; rfl, step_idleS hc5.2.1] at hst
            have H6 := Lib.hid hst
            clear hst hc5 H2 HT4 HC4 HS5
            go_wp2_with fail
            refine H6.out.mono ?_
            rintro e w6 ⟨rfl, HT6⟩
            have H7 := Lib.hid (open_Z HT6.out HC5.out)
            clear H6 HT5
            go_wp2_with fail
            refine H7.out.mono ?_
            rintro e w7 ⟨q2, N2, rfl, HU7, hc7⟩
            have HT7 := Lib.hid (HT6.out.kept hc7)
            have H8 := Lib.hid (records_Z HU7.out)
            clear H7 hc7 HT6
            go_wp2_with fail
            refine H8.out.mono ?_
            rintro e w8 ⟨a8, z8, c8, rfl, hz8, hc8⟩
            have HT8 := Lib.hid (HT7.out.kept hc8)
            have HU8 := Lib.hid (HU7.out.kept hc8)
            have H9 := Lib.hid (records_Z HT8.out)
            clear H8 HU7 HT7 hc8
            go_wp2_with fail
            refine H9.out.mono ?_
            rintro e w9 ⟨a9, z9, c9, rfl, hz9, hc9⟩
            have HT9 := Lib.hid (HT8.out.kept hc9)
            have HU9 := Lib.hid (HU8.out.kept hc9)
            have hl8 : z8.length ≤ 1000000 := by rw [← recs_len, hz8.out.2]; exact HT9.out.few
            have hl9 : z9.length ≤ 1000000 := by rw [← recs_len, hz9.out.2]; exact HT9.out.few
            have hr8 := (hz8.out.1.kept hc9).rom (by omega) (fun x hx => by have := HT9.out.okR x.bs (by rw [show S5.L = recs z8 from hz8.out.2.symm]; exact List.mem_map.2 ⟨x, hx, rfl⟩); have := this.2; omega)
            have hr9 := hz9.out.1.rom (by omega) (fun x hx => by have := HT9.out.okR x.bs (by rw [← hz9.out.2]; exact List.mem_map.2 ⟨x, hx, rfl⟩); have := this.2; omega)
            have hsm := same_any w9 a8 a9 z8 z9 c8 c9 hr8 hr9
            rw [decide_eq_true (show recs z8 = recs z9 from hz8.out.2.trans hz9.out.2.symm)] at hsm
            have H10 := Lib.hid hsm
            clear hsm hr8 hr9 hl8 hl9 hz8 hz9 hc9 H9 HT8 HU8
            go_wp2_with fail
            refine H10.out.mono ?_
            rintro e w10 ⟨rfl, hq10⟩
            have HT10 := Lib.hid (HT9.out.kept ((Chg.refl [] w9).qt hq10))
            have HU10 := Lib.hid (HU9.out.kept ((Chg.refl [] w9).qt hq10))
            clear H10 hq10 HT9 HU9
            go_wp2_with fail
            refine (alive_any _).mono ?_
            rintro e w11 ⟨rfl, hc11⟩
            have HT11 := Lib.hid (HT10.out.kept hc11)
            have HU11 := Lib.hid (HU10.out.kept hc11)
            have hro := room_Z HU11.out
            obtain ⟨R, HR⟩ : ∃ R, Hid (roomN n S5.h S5.h' S5.L S5.L' = R) := ⟨_, Lib.hid rfl⟩
            have hre : roomN n (calm S5.F S5.m S5.h S5.L).h (calm S5.F S5.m S5.h S5.L).h' (calm S5.F S5.m S5.h S5.L).L (calm S5.F S5.m S5.h S5.L).L' = R := by
              rw [← HR.out, HI5.out.2, ← HI5.out.1.1]; rfl
            rw [hre] at hro
            have H12 := Lib.hid hro
            have hrt := fun w' (hq : Qt w11 w') => room_Z (HT11.out.kept ((Chg.refl [] w11).qt hq))
            simp only [HR.out] at hrt
            have H13 := Lib.hid hrt
            have b1 : ((R : Int) == (R : Int)) = true := by simp
            clear hro hrt hre hc11 HT10 HU10
            go_wp2_with fail
            refine H12.out.mono ?_
            rintro e w12 ⟨rfl, hq12⟩
            have HQ12 := Lib.hid hq12
            clear H12 hq12
            go_wp2_with fail
            refine (H13.out _ HQ12.out).mono ?_
            rintro e w13 ⟨rfl, hq13⟩
            have HT13 := Lib.hid (HT11.out.kept ((Chg.refl [] w11).qt (HQ12.out.trans hq13)))
            have HU13 := Lib.hid (HU11.out.kept ((Chg.refl [] w11).qt (HQ12.out.trans hq13)))
            have hwa := waiting_Z HU13.out
            rw [wait_idle2 (show TS.idle (calm S5.F S5.m S5.h S5.L) from ⟨rfl, rfl⟩)] at hwa
            have H14 := Lib.hid hwa
            clear hwa hq13 H13 HQ12 HT11 HU11
            go_wp2_with fail
            refine H14.out.mono ?_
            rintro e w14 ⟨rfl, hc14⟩
            have HT14 := Lib.hid (HT13.out.kept hc14)
            have H15 := Lib.hid (dirty_none w14 HT14.out.dsk (by rw [(HC5.out.d.k0 HC5.out.k).1]; exact dirty0n n))
            clear H14 hc14 HT13 HU13
            go_wp2_with fail
            refine H15.out.mono ?_
            rintro e w15 ⟨a15, c15, rfl, hb15⟩
            have HF := Lib.hid (HT14.out.chg.of_below hb15)
            clear H15 hb15 HT14
            go_wp2_with fail
            go_ret
            exact ⟨rfl, HF.out⟩
          · have hd1 : decide (k < N) = false := by simpa using hkN
            have hd3 : ¬ ((k : Int) < (N : Int)) := by omega
            clear hkN hlt
            have H1 := Lib.hid (commit_Z HTZ.out)
            go_wp2_with fail
            refine H1.out.mono ?_
            rintro e w4 ⟨rfl, HT4⟩
            have HC4 := Lib.hid (HCO.out.commit HTZ.out.inv HT4.out.inv).1
            have H2 := Lib.hid (commit_Z HT4.out)
            clear H1 HTZ HCO
            go_wp2_with fail
            refine H2.out.mono ?_
            rintro e w5 ⟨rfl, HT5⟩
            have hc5 := HC4.out.commit HT4.out.inv HT5.out.inv
            obtain ⟨S5, HS5⟩ : ∃ X, Hid (commitS n (commitS n S) = X) := ⟨_, Lib.hid rfl⟩
            rw [HS5.out] at hc5 HT5
            have HC5 := Lib.hid hc5.1
            have HI5 := Lib.hid hc5.2
            have hst := step_Z HT5.out
            rw [show doneS S5 = true from by unfold doneS; rw [decide_eq_true hc5.2.1]; rfl, step_idleS hc5.2.1] at hst
            have H6 := Lib.hid hst
            clear hst hc5 H2 HT4 HC4 HS5
            go_wp2_with fail
            refine H6.out.mono ?_
            rintro e w6 ⟨rfl, HT6⟩
            have H7 := Lib.hid (open_Z HT6.out HC5.out)
            clear H6 HT5
            go_wp2_with fail
            refine H7.out.mono ?_
            rintro e w7 ⟨q2, N2, rfl, HU7, hc7⟩
            have HT7 := Lib.hid (HT6.out.kept hc7)
            have H8 := Lib.hid (records_Z HU7.out)
            clear H7 hc7 HT6
            go_wp2_with fail
            refine H8.out.mono ?_
            rintro e w8 ⟨a8, z8, c8, rfl, hz8, hc8⟩
            have HT8 := Lib.hid (HT7.out.kept hc8)
            have HU8 := Lib.hid (HU7.out.kept hc8)
            have H9 := Lib.hid (records_Z HT8.out)
            clear H8 HU7 HT7 hc8
            go_wp2_with fail
            refine H9.out.mono ?_
            rintro e w9 ⟨a9, z9, c9, rfl, hz9, hc9⟩
            have HT9 := Lib.hid (HT8.out.kept hc9)
            have HU9 := Lib.hid (HU8.out.kept hc9)
            have hl8 : z8.length ≤ 1000000 := by rw [← recs_len, hz8.out.2]; exact HT9.out.few
            have hl9 : z9.length ≤ 1000000 := by rw [← recs_len, hz9.out.2]; exact HT9.out.few
            have hr8 := (hz8.out.1.kept hc9).rom (by omega) (fun x hx => by have := HT9.out.okR x.bs (by rw [show S5.L = recs z8 from hz8.out.2.symm]; exact List.mem_map.2 ⟨x, hx, rfl⟩); have := this.2; omega)
            have hr9 := hz9.out.1.rom (by omega) (fun x hx => by have := HT9.out.okR x.bs (by rw [← hz9.out.2]; exact List.mem_map.2 ⟨x, hx, rfl⟩); have := this.2; omega)
            have hsm := same_any w9 a8 a9 z8 z9 c8 c9 hr8 hr9
            rw [decide_eq_true (show recs z8 = recs z9 from hz8.out.2.trans hz9.out.2.symm)] at hsm
            have H10 := Lib.hid hsm
            clear hsm hr8 hr9 hl8 hl9 hz8 hz9 hc9 H9 HT8 HU8
            go_wp2_with fail
            refine H10.out.mono ?_
            rintro e w10 ⟨rfl, hq10⟩
            have HT10 := Lib.hid (HT9.out.kept ((Chg.refl [] w9).qt hq10))
            have HU10 := Lib.hid (HU9.out.kept ((Chg.refl [] w9).qt hq10))
            clear H10 hq10 HT9 HU9
            go_wp2_with fail
            refine (alive_any _).mono ?_
            rintro e w11 ⟨rfl, hc11⟩
            have HT11 := Lib.hid (HT10.out.kept hc11)
            have HU11 := Lib.hid (HU10.out.kept hc11)
            have hro := room_Z HU11.out
            obtain ⟨R, HR⟩ : ∃ R, Hid (roomN n S5.h S5.h' S5.L S5.L' = R) := ⟨_, Lib.hid rfl⟩
            have hre : roomN n (calm S5.F S5.m S5.h S5.L).h (calm S5.F S5.m S5.h S5.L).h' (calm S5.F S5.m S5.h S5.L).L (calm S5.F S5.m S5.h S5.L).L' = R := by
              rw [← HR.out, HI5.out.2, ← HI5.out.1.1]; rfl
            rw [hre] at hro
            have H12 := Lib.hid hro
            have hrt := fun w' (hq : Qt w11 w') => room_Z (HT11.out.kept ((Chg.refl [] w11).qt hq))
            simp only [HR.out] at hrt
            have H13 := Lib.hid hrt
            have b1 : ((R : Int) == (R : Int)) = true := by simp
            clear hro hrt hre hc11 HT10 HU10
            go_wp2_with fail
            refine H12.out.mono ?_
            rintro e w12 ⟨rfl, hq12⟩
            have HQ12 := Lib.hid hq12
            clear H12 hq12
            go_wp2_with fail
            refine (H13.out _ HQ12.out).mono ?_
            rintro e w13 ⟨rfl, hq13⟩
            have HT13 := Lib.hid (HT11.out.kept ((Chg.refl [] w11).qt (HQ12.out.trans hq13)))
            have HU13 := Lib.hid (HU11.out.kept ((Chg.refl [] w11).qt (HQ12.out.trans hq13)))
            have hwa := waiting_Z HU13.out
            rw [wait_idle2 (show TS.idle (calm S5.F S5.m S5.h S5.L) from ⟨rfl, rfl⟩)] at hwa
            have H14 := Lib.hid hwa
            clear hwa hq13 H13 HQ12 HT11 HU11
            go_wp2_with fail
            refine H14.out.mono ?_
            rintro e w14 ⟨rfl, hc14⟩
            have HT14 := Lib.hid (HT13.out.kept hc14)
            have H15 := Lib.hid (dirty_none w14 HT14.out.dsk (by rw [(HC5.out.d.k0 HC5.out.k).1]; exact dirty0n n))
            clear H14 hc14 HT13 HU13
            go_wp2_with fail
            refine H15.out.mono ?_
            rintro e w15 ⟨a15, c15, rfl, hb15⟩
            have HF := Lib.hid (HT14.out.chg.of_below hb15)
            clear H15 hb15 HT14
            go_wp2_with fail
            go_ret
            exact ⟨rfl, HF.out⟩
    · rw [decide_eq_false hfit] at hft
      have HFT := Lib.hid hft
      clear hft hfit
      go_wp2_with (first | (go_at_call 14; refine HFT.out.mono ?_; rintro e w3 ⟨rfl, hc3⟩) | fail)
      have HC := Lib.hid (HT.out.kept hc3).chg
      clear HT HFT hc3
      go_wp2_with fail
      go_ret
      exact ⟨rfl, HC.out⟩
theorem tapeOpens_row (w : World) {z : Int} (hz : (Lit.int .i64 z).wf = true) {a : Option Addr} {xs : List SB} {c : Nat} (h : RoM w a xs) {a' : Option Addr} {ys : List SB} {c' : Nat} (h' : RoM w a' ys) :
    Calls Try.prog 6 #[.int .i64 z, .slice a xs.length c, .slice a' ys.length c'] w fun e w' => e = .returned (.bool true) ∧ Below w.heap.size w w' :=
  (tapeOpens_walk w z a a' xs ys c c' (bounds_i64 hz) h h').mono fun e w' h => ⟨h.1, h.2.low⟩
end Go.Proofs.Ytdiemejdbakffaa
