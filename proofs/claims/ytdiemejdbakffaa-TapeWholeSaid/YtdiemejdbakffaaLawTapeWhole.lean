/-
  The statement TapeWhole, under way: what a crash leaves. No condition but the ranges of the arguments.
-/
import Derived.Test.YtdiemejdbakffaaWh6
namespace Go.Proofs.Ytdiemejdbakffaa
open Go.RowKit Go.Maps Go.Shelf
set_option linter.unusedVariables false
set_option linter.unusedSimpArgs false

abbrev ofV (st : Int) (ak : Option Addr) (lk ck : Nat) (fr : Bool) : Value := .agg #[.int .i64 st, .slice ak lk ck, .bool fr]
/-- a tape with a disk as it should be, the arguments' boxes and rows -/
structure Wh (w0 w : World) (N : List Nat) (q p g b n : Nat) (S : TS) : Prop where
  tz : Tz w w N q p g b n S
  co : Co n S
  low : ∀ x ∈ N, w0.heap.size ≤ x ∧ x < w.heap.size
  chg : Chg [] w0 w
theorem Wh.call {w0 w w1 : World} {N : List Nat} {q p g b n : Nat} {S S' : TS} (h : Wh w0 w N q p g b n S) (t : Tz w w1 N q p g b n S') (c : Co n S') : ∃ N', Wh w0 w1 N' q p g b n S' ∧ (∀ x ∈ N', x ∈ N ∨ w.heap.size ≤ x) ∧ Chg N w w1 := by
  obtain ⟨N', h1, h2⟩ := t.next
  refine ⟨N', ⟨h1, c, fun x hx => ⟨?_, (h2 x hx).2⟩, h.chg.then t.chg (fun x hx => .inr (h.low x hx).1)⟩, fun x hx => (h2 x hx).1, t.chg⟩
  rcases (h2 x hx).1 with h3 | h3
  · exact (h.low x h3).1
  · exact Nat.le_trans h.chg.size h3
theorem Wh.kept {w0 w w1 : World} {N : List Nat} {q p g b n : Nat} {S : TS} (h : Wh w0 w N q p g b n S) (hc : Chg [] w w1) : Wh w0 w1 N q p g b n S :=
  ⟨h.tz.fresh hc (by simp), h.co, fun x hx => ⟨(h.low x hx).1, Nat.lt_of_lt_of_le (h.low x hx).2 hc.size⟩, h.chg.trans hc⟩
set_option maxHeartbeats 16000000 in
set_option maxRecDepth 100000 in
theorem tapeWhole_walk (w : World) (z : Int) (a a' : Option Addr) (xs ys : List SB) (c c' : Nat) (st : Int) (ak : Option Addr) (ks : List Bool) (ck : Nat) (fr : Bool) (hz : -9223372036854775808 ≤ z ∧ z ≤ 9223372036854775807) (hx : RoM w a xs) (hy : RoM w a' ys) (hst : -9223372036854775808 ≤ st ∧ st ≤ 9223372036854775807) (hk : Ro w w.heap.size ak (bls ks)) (hks : ks.length ≤ 9223372036854775807) :
    Calls Try.prog 3 #[.int .i64 z, .agg #[.slice a xs.length c, .slice a' ys.length c'], ofV st ak ks.length ck fr] w fun e w' => e = .returned (.bool true) ∧ Chg [] w w' := by
  obtain ⟨w0, HW0⟩ : ∃ W, Hid ((w.alloc (.cells #[.slice a xs.length c, .slice a' ys.length c'] 23)).alloc (.cells #[.int .i64 st, .slice ak ks.length ck, .bool fr] 26) = W) := ⟨_, Lib.hid rfl⟩
  by_cases hout : z < 3 ∨ 60 < z
  · clear hx hy hk
    generalize xs.length = N at *
    generalize ys.length = N' at *
    generalize ks.length = K1 at *
    have hc0 : Chg [] w w0 := by rw [← HW0.out]; exact ((Chg.refl [] w).alloc _).alloc _
    by_cases h3 : z < 3
    · have d1 : decide (z < 3) = true := by simpa using h3
      clear hout hz
      go_enter Try.func3, Try.ntmps3
      go_wp2_with (first | (go_at_call 8; simp only [HW0.out]; refine (alive_any _).mono ?_; rintro e w2 ⟨rfl, hc2⟩) | fail)
      go_ret
      exact ⟨rfl, hc0.trans hc2⟩
    · have d1 : decide (z < 3) = false := by simpa using h3
      have h6 : 60 < z := by omega
      have d2 : decide (60 < z) = true := by simpa using h6
      clear hout hz
      go_enter Try.func3, Try.ntmps3
      go_wp2_with (first | (go_at_call 8; simp only [HW0.out]; refine (alive_any _).mono ?_; rintro e w2 ⟨rfl, hc2⟩) | fail)
      go_ret
      exact ⟨rfl, hc0.trans hc2⟩
  · obtain ⟨n, rfl⟩ : ∃ n : Nat, z = (n : Int) := ⟨z.toNat, by omega⟩
    have h3 : 3 ≤ n := by omega
    have h60 : n ≤ 60 := by omega
    have d1 : decide ((n : Int) < 3) = false := by simp; omega
    have d2 : decide ((60 : Int) < (n : Int)) = false := by simp; omega
    have d1' : decide (n < 3) = false := by simp; omega
    have d2' : decide (60 < n) = false := by simp; omega
    have HX := Lib.hid hx
    have HY := Lib.hid hy
    have HK := Lib.hid hk
    obtain ⟨N, HN⟩ : ∃ N, Hid (xs.length = N) := ⟨_, Lib.hid rfl⟩
    obtain ⟨N', HN'⟩ : ∃ N, Hid (ys.length = N) := ⟨_, Lib.hid rfl⟩
    obtain ⟨K1, HK1⟩ : ∃ N, Hid (ks.length = N) := ⟨_, Lib.hid rfl⟩
    have hN := hx.len
    have hN' := hy.len
    simp only [HN.out, HN'.out, HK1.out] at hN hN' HW0 ⊢
    have H0 := Lib.hid (new_ex w0 n (by omega) (by omega))
    clear hx hy hk hout hz
    go_enter Try.func3, Try.ntmps3
    go_wp2_with fail
    simp only [HW0.out]
    refine H0.out.mono ?_
    rintro e w1 ⟨p, g, b, rfl, hp, hg, hb, hd1, hc1⟩
    have H1 := Lib.hid (open_at w1 hd1 (by omega) (h := 0) (L := []) (opens_zero n))
    clear hd1
    go_wp2_with fail
    refine H1.out.mono ?_
    rintro e w2 ⟨q, l, rfl, ht2, hl2, hc2⟩
    have hT := Tz.start hp hg hb hc1 ht2.out hl2.out hc2
    obtain ⟨N0, hT0, hN0⟩ := hT.next
    have HW := Lib.hid (show Wh w0 w2 N0 q p g b n (calm (fun _ => zsec) (fun _ => none) 0 []) from
      ⟨hT0, Co.start n, fun x hx => ⟨by rcases (hN0 x hx).1 with h | h
                                        · simp at h
                                        · exact h, (hN0 x hx).2⟩, hc1.trans hc2⟩)
    clear ht2 hl2 hc2 hc1 H0 H1 hT hT0 hN0
    have hbx : Chg [] w w0 ∧ w0.cell? ⟨w.heap.size, 0, none⟩ = some (.slice a N c) ∧ w0.cell? ⟨w.heap.size, 1, none⟩ = some (.slice a' N' c') ∧ w0.cell? ⟨w.heap.size + 1, 0, none⟩ = some (.int .i64 st) ∧ w0.cell? ⟨w.heap.size + 1, 1, none⟩ = some (.slice ak K1 ck) ∧ w0.cell? ⟨w.heap.size + 1, 2, none⟩ = some (.bool fr) := by
      rw [← HW0.out]
      have hA := (Own.new w 23 [.slice a N c, .slice a' N' c']).alloc (.cells #[.int .i64 st, .slice ak K1 ck, .bool fr] 26)
      have hB := Own.new (w.alloc (.cells #[.slice a N c, .slice a' N' c'] 23)) 26 [.int .i64 st, .slice ak K1 ck, .bool fr]
      rw [World.size_alloc] at hB
      exact ⟨((Chg.refl [] w).alloc _).alloc _, hA.cell 0, hA.cell 1, hB.cell 0, hB.cell 1, hB.cell 2⟩
    have HBX := Lib.hid hbx
    clear hbx hp hg hb
    go_upto_block 0 with fail
    go_cut [11] from 53 to 77 (fun _ wx => ∃ NN S, Wh w0 wx NN q p g b n S)
    case first =>
      go_wp2_with fail
      go_loopw [11] (fun i wr => ∃ k : Nat, k ≤ N ∧ k ≤ 20 ∧ i = .int .i64 k ∧ ∃ NN S, Hid (Wh w0 wr NN q p g b n S)) (fun i _ => N - (intOf i).toNat)
      case atStart => exact ⟨0, by omega, by omega, rfl, N0, _, HW⟩
      case round =>
        obtain ⟨k, hk, hk20, rfl, NN, S, HW⟩ := hrel
        have cA := HW.out.chg.cell HBX.out.2.1 (by simp)
        by_cases hlt : k < N ∧ k < 20
        · have hkx : k < xs.length := by rw [HN.out]; exact hlt.1
          obtain ⟨bb, off, rfl, hbb, hcx⟩ := HX.out.at_ hkx
          have hcell0 := hcx k hkx
          unfold SB.val at hcell0
          have HEL := Lib.hid (HX.out.el _ (List.getElem_mem hkx))
          have hlen0 := HX.out.lens _ (List.getElem_mem hkx)
          clear hcx
          generalize xs[k] = x at *
          obtain ⟨N1, HN1⟩ : ∃ M, Hid (x.bs.length = M) := ⟨_, Lib.hid rfl⟩
          rw [HN1.out] at hcell0 hlen0
          have hCw := HBX.out.1.trans HW.out.chg
          have hcell := hCw.cell hcell0 (by simp)
          have hap := append_Z HW.out.tz x.a x.bs x.c ((HEL.out.chgs hCw (by simp)).mono hCw.size) (fun h0 y hy hn => by
            have h1 := ro_off HEL.out (ne_u8s h0) y hy
            have h2 := (HW.out.low _ hn).1
            have h3 := HBX.out.1.size
            omega)
          rw [HN1.out] at hap
          have HAP := Lib.hid hap
          have hd1 : decide (k < N) = true := by simpa using hlt.1
          have hd2 : decide (k < 20) = true := by simpa using hlt.2
          have hd3 : (k : Int) < (N : Int) := by omega
          have hd4 : (k : Int) < 20 := by omega
          clear hcell0 hlt hkx hap hCw
          by_cases h400 : N1 ≤ 400
          · have e4 : decide (N1 ≤ 400) = true := by simpa using h400
            have e5 : (N1 : Int) ≤ 400 := by omega
            go_wp2_with fail
            refine HAP.out.mono ?_
            rintro e w5 ⟨rfl, HT5⟩
            obtain ⟨N5, h5, _, _⟩ := HW.out.call HT5.out (HW.out.co.app x.bs)
            have HW5 := Lib.hid h5
            clear HAP HT5 h5 cA hcell
            go_wp2_with fail
            go_roundw
            case rel => exact ⟨k + 1, by omega, by omega, by go_num, N5, _, HW5⟩
            case measure => simp [intOf]; omega
          · have e4 : decide (N1 ≤ 400) = false := by simpa using h400
            have e5 : ¬ ((N1 : Int) ≤ 400) := by omega
            go_wp2_with fail
            go_roundw
            case rel => exact ⟨k + 1, by omega, by omega, by go_num, NN, S, HW⟩
            case measure => simp [intOf]; omega
        · rcases (show (k < N ∧ ¬ k < 20) ∨ ¬ k < N from by omega) with ⟨h1, h2⟩ | h1
          · have hd1 : decide (k < N) = true := by simpa using h1
            have hd2 : decide (k < 20) = false := by simpa using h2
            have hd3 : (k : Int) < (N : Int) := by omega
            have hd4 : ¬ ((k : Int) < 20) := by omega
            clear hlt h1 h2
            go_wp2_with fail
            go_meet
            case rel => exact ⟨NN, S, HW.out⟩
          · have hd1 : decide (k < N) = false := by simpa using h1
            have hd3 : ¬ ((k : Int) < (N : Int)) := by omega
            clear hlt h1
            go_wp2_with fail
            go_meet
            case rel => exact ⟨NN, S, HW.out⟩
    case rest =>
      obtain ⟨NN, S, hcut⟩ := hcut
      clear HW
      have HW := Lib.hid hcut
      clear hcut
      have H1 := Lib.hid (commit_Z HW.out.tz)
      go_wp2_with fail
      refine H1.out.mono ?_
      rintro e w4 ⟨rfl, HT4⟩
      have hco := HW.out.co.commit HW.out.tz.inv HT4.out.inv
      obtain ⟨N4, h4, _, _⟩ := HW.out.call HT4.out hco.1
      obtain ⟨S4, HS4⟩ : ∃ X, Hid (commitS n S = X) := ⟨_, Lib.hid rfl⟩
      rw [HS4.out] at h4 hco
      have HW4 := Lib.hid h4
      have HI4 := Lib.hid hco.2
      have H5 := Lib.hid (records_Z h4.tz)
      clear H1 HT4 h4 hco HW HS4
      go_wp2_with fail
      refine H5.out.mono ?_
      rintro e w5 ⟨a5, was, c5, rfl, hz5, hc5⟩
      have HW5 := Lib.hid (HW4.out.kept hc5)
      have hok5 : okL S4.L := HW4.out.tz.okR
      have hfew5 : was.length ≤ 1000000 := by rw [← recs_len, hz5.out.2]; exact HW4.out.tz.few
      have HWAS := Lib.hid (RS.own (N := N4) hz5.out.1 (fun x hx => (HW4.out.low x hx).2) (by omega) (fun x hx => by have := hok5 x.bs (by rw [← hz5.out.2]; exact List.mem_map.2 ⟨x, hx, rfl⟩); have := this.2; omega))
      have HWL := Lib.hid hz5.out.2
      obtain ⟨lw, HLW⟩ : ∃ M, Hid (was.length = M) := ⟨_, Lib.hid rfl⟩
      rw [HLW.out] at hfew5 ⊢
      clear H5 hz5 hc5 hok5 HW4
      have hLT : (recs was) = S4.L := HWL.out
      have HI45 := Lib.hid (show S4.L' = recs was by rw [HI4.out.2]; exact hLT.symm)
      clear hLT
      go_upto_region 15 with fail
      go_cut [14] from 83 to 97 (fun v14 wx => ∃ (F : Bool) (NN : List Nat) (S5 : TS), v14 = .bool F ∧ Wh w0 wx NN q p g b n S5 ∧ RS wx NN a5 was ∧ S5.L = S4.L ∧ ((F = true ∧ fr = true ∧ S5.L' = recs ys ∧ ys.length ≤ 20) ∨ (F = false ∧ S5.L' = recs was)))
      case first =>
        cases fr with
        | false =>
          have cB := HW5.out.chg.cell HBX.out.2.2.2.2.2 (by simp)
          go_wp2_with fail
          go_meet
          case rel => exact ⟨false, N4, S4, rfl, HW5.out, HWAS.out, rfl, .inr ⟨rfl, HI45.out⟩⟩
        | true =>
          have cB := HW5.out.chg.cell HBX.out.2.2.2.2.2 (by simp)
          have cA1 := HW5.out.chg.cell HBX.out.2.2.1 (by simp)
          have hCw := HBX.out.1.trans HW5.out.chg
          have hyk : RoM w5 a' ys := ⟨(HY.out.row.chgs hCw (by simp)).mono hCw.size, fun x hx => ((HY.out.el x hx).chgs hCw (by simp)).mono hCw.size, HY.out.len, HY.out.lens⟩
          have hft := fits_any w5 0 0 none 0 0 a' ys c' none 0 0 hyk
          rw [show decide (fitsL ys ∧ 0 ≤ 400) = decide (fitsL ys) from by simp, HN'.out] at hft
          clear hyk hCw
          by_cases hfit : fitsL ys
          · rw [decide_eq_true hfit] at hft
            have HFT := Lib.hid hft
            have HFIT := Lib.hid hfit
            clear hft hfit
            go_wp2_with fail
            refine HFT.out.mono ?_
            rintro e w6 ⟨rfl, hc6⟩
            have HW6 := Lib.hid (HW5.out.kept hc6)
            have HRS6 := Lib.hid (HWAS.out.kept hc6)
            clear cA1 cB
            have cA1 := HW6.out.chg.cell HBX.out.2.2.1 (by simp)
            have HAR := Lib.hid (RS.arg HY.out (HBX.out.1.trans HW6.out.chg) (fun x hx => Nat.le_trans HBX.out.1.size (HW6.out.low x hx).1))
            have hrp := replace_Z HW6.out.tz a' ys c' (HAR.out.rom.rol (fun x hx => by have := HFIT.out.2 x hx; omega)) HAR.out.sep (by have := HFIT.out.1; omega)
            rw [HN'.out] at hrp
            obtain ⟨hrL, hrc⟩ := wh_repl (n := n) (S := S4) ys
            clear HFT hc6 HWAS HW5
            rcases hrc with ⟨hE, hL'⟩ | ⟨E, hE, e0, hL'⟩
            · rw [hE] at hrp
              have HRP := Lib.hid hrp
              have HLL := Lib.hid hL'
              have HRL := Lib.hid hrL
              clear hrp hE hL' hrL
              go_wp2_with fail
              refine HRP.out.mono ?_
              rintro e w7 ⟨rfl, HT7⟩
              obtain ⟨N7, h7, h7n, h7c⟩ := HW6.out.call HT7.out (HW6.out.co.repl ys)
              have HW7 := Lib.hid h7
              have HRS7 := Lib.hid (HRS6.out.call h7c h7n)
              clear HRP HT7 h7 h7n h7c cA1 HRS6 HAR HW6
              go_wp2_with fail
              go_meet
              case rel => exact ⟨true, N7, _, rfl, HW7.out, HRS7.out, HRL.out, .inl ⟨rfl, by first | rfl | trivial, HLL.out, HFIT.out.1⟩⟩
            · rw [hE] at hrp
              have HRP := Lib.hid hrp
              have HLL := Lib.hid hL'
              have HRL := Lib.hid hrL
              clear hrp hE hL' hrL
              go_wp2_with fail
              refine HRP.out.mono ?_
              rintro e w7 ⟨rfl, HT7⟩
              obtain ⟨N7, h7, h7n, h7c⟩ := HW6.out.call HT7.out (HW6.out.co.repl ys)
              have HW7 := Lib.hid h7
              have HRS7 := Lib.hid (HRS6.out.call h7c h7n)
              clear HRP HT7 h7 h7n h7c cA1 HRS6 HAR HW6
              go_wp2_with fail
              go_meet
              case rel => exact ⟨false, N7, _, rfl, HW7.out, HRS7.out, HRL.out, .inr ⟨rfl, by rw [HLL.out]; exact HI45.out⟩⟩
          · rw [decide_eq_false hfit] at hft
            have HFT := Lib.hid hft
            clear hft hfit
            go_wp2_with fail
            refine HFT.out.mono ?_
            rintro e w6 ⟨rfl, hc6⟩
            have HW6 := Lib.hid (HW5.out.kept hc6)
            have HRS6 := Lib.hid (HWAS.out.kept hc6)
            clear cA1 cB hc6 HFT
            go_wp2_with fail
            go_meet
            case rel => exact ⟨false, N4, S4, rfl, HW6.out, HRS6.out, rfl, .inr ⟨rfl, HI45.out⟩⟩
      case rest =>
        obtain ⟨F, NN6, S6, rfl, h6, h6r, h6L, h6c⟩ := hcut
        clear HW5 HWAS
        have HW6 := Lib.hid h6
        have HRS6 := Lib.hid h6r
        have HL6 := Lib.hid h6L
        have HC6 := Lib.hid h6c
        clear h6 h6r h6L h6c
        go_upto_if 98 with fail
        go_cut [13] from 99 to 100 (fun v13 wx => ∃ am cm zs, v13 = .slice am zs.length cm ∧ Wh w0 wx NN6 q p g b n S6 ∧ RS wx NN6 a5 was ∧ RS wx NN6 am zs ∧ S6.L' = recs zs ∧ zs.length ≤ 1000000)
        case first =>
          cases F with
          | true =>
            have cA1 := HW6.out.chg.cell HBX.out.2.2.1 (by simp)
            have HAR := Lib.hid (RS.arg HY.out (HBX.out.1.trans HW6.out.chg) (fun x hx => Nat.le_trans HBX.out.1.size (HW6.out.low x hx).1))
            go_wp2_with fail
            go_meet
            case rel => exact ⟨a', c', ys, by rw [HN'.out], HW6.out, HRS6.out, HAR.out, HC6.out.elim (fun h => h.2.2.1) (fun h => nomatch h.1), HC6.out.elim (fun h => by have := h.2.2.2; omega) (fun h => nomatch h.1)⟩
          | false =>
            go_wp2_with fail
            go_meet
            case rel => exact ⟨a5, c5, was, by rw [HLW.out], HW6.out, HRS6.out, HRS6.out, HC6.out.elim (fun h => nomatch h.1) (fun h => h.2), by rw [HLW.out]; exact hfew5⟩
        case rest =>
          obtain ⟨am, cm, zs, rfl, h6, h6r, h6z, h6c, h6l⟩ := hcut
          clear HW6 HRS6 HC6
          have HW6 := Lib.hid h6
          have HRS6 := Lib.hid (And.intro h6r (And.intro h6z h6c))
          have HZ6 := Lib.hid h6l
          clear h6 h6r h6z h6c h6l
          obtain ⟨lz, HLZ⟩ : ∃ X, Hid (zs.length = X) := ⟨_, Lib.hid rfl⟩
          rw [HLZ.out]
          go_upto_block 2 with fail
          go_cut [13] from 101 to 143 (fun v13 wx => ∃ NN S5 am cm zs, v13 = .slice am zs.length cm ∧ Wh w0 wx NN q p g b n S5 ∧ RS wx NN a5 was ∧ RS wx NN am zs ∧ S5.L = S4.L ∧ S5.L' = recs zs ∧ zs.length ≤ 1000020)
          case first =>
            go_wp2_with fail
            go_loopw [13, 15] (fun v i wr => ∃ k : Nat, k ≤ N' ∧ k ≤ 20 ∧ i = .int .i64 k ∧ ∃ NN S am cm lz zs, v = .slice am lz cm ∧ Hid (zs.length = lz) ∧ Hid (Wh w0 wr NN q p g b n S) ∧ Hid (RS wr NN a5 was ∧ RS wr NN am zs ∧ S.L = S4.L ∧ S.L' = recs zs ∧ lz ≤ 1000000 + k)) (fun _ i _ => N' - (intOf i).toNat)
            case atStart => exact ⟨0, by omega, by omega, rfl, NN6, S6, am, cm, lz, zs, rfl, HLZ, HW6, Lib.hid ⟨HRS6.out.1, HRS6.out.2.1, HL6.out, HRS6.out.2.2, by rw [← HLZ.out]; exact HZ6.out⟩⟩
            case round =>
              clear HW6 HRS6 HZ6 HLZ HL6
              obtain ⟨k, hk, hk20, rfl, NN, S, am, cm, lz, zs, rfl, HLZ, HW, HRS⟩ := hrel
              have cA := HW.out.chg.cell HBX.out.2.2.1 (by simp)
              have cB := HW.out.chg.cell HBX.out.2.2.2.2.2 (by simp)
              by_cases hlt : k < N' ∧ k < 20 ∧ fr = false
              · obtain ⟨hlt1, hlt2, rfl⟩ := hlt
                have hkx : k < ys.length := by rw [HN'.out]; exact hlt1
                obtain ⟨bb, off, rfl, hbb, hcx⟩ := HY.out.at_ hkx
                have hcell0 := hcx k hkx
                unfold SB.val at hcell0
                have HEL := Lib.hid (HY.out.el _ (List.getElem_mem hkx))
                have hlen0 := HY.out.lens _ (List.getElem_mem hkx)
                clear hcx
                generalize ys[k] = y at *
                obtain ⟨N1, HN1⟩ : ∃ M, Hid (y.bs.length = M) := ⟨_, Lib.hid rfl⟩
                rw [HN1.out] at hcell0 hlen0
                have hCw := HBX.out.1.trans HW.out.chg
                have hcell := hCw.cell hcell0 (by simp)
                have hsep : y.bs ≠ [] → ∀ x, y.a = some x → x.block ∉ NN := fun h0 x hx hn => by
                  have h1 := ro_off HEL.out (ne_u8s h0) x hx
                  have h2 := (HW.out.low _ hn).1
                  have h3 := HBX.out.1.size
                  omega
                have hap := append_Z HW.out.tz y.a y.bs y.c ((HEL.out.chgs hCw (by simp)).mono hCw.size) hsep
                rw [HN1.out] at hap
                have hd1 : decide (k < N') = true := by simpa using hlt1
                have hd2 : decide (k < 20) = true := by simpa using hlt2
                have hd3 : (k : Int) < (N' : Int) := by omega
                have hd4 : (k : Int) < 20 := by omega
                have HC0 := Lib.hid (And.intro hcell0 (And.intro hbb hsep))
                clear hcell0 hkx hCw hbb hsep
                by_cases h400 : N1 ≤ 400
                · have e4 : decide (N1 ≤ 400) = true := by simpa using h400
                  have e5 : (N1 : Int) ≤ 400 := by omega
                  obtain ⟨hapL, hapc⟩ := wh_app (n := n) (S := S) y.bs
                  rcases hapc with ⟨hE, hL'⟩ | ⟨E, hE, e0, hL'⟩
                  · rw [hE] at hap
                    have HAP := Lib.hid hap
                    have HLL := Lib.hid hL'
                    have HRL := Lib.hid hapL
                    clear hap hE hL' hapL
                    go_wp2_with fail
                    refine HAP.out.mono ?_
                    rintro e w5 ⟨rfl, HT5⟩
                    obtain ⟨N5, h5, h5n, h5c⟩ := HW.out.call HT5.out (HW.out.co.app y.bs)
                    have HW5 := Lib.hid h5
                    have HRS5 := Lib.hid (And.intro (HRS.out.1.call h5c h5n) (HRS.out.2.1.call h5c h5n))
                    have hCw := HBX.out.1.trans h5.chg
                    have HYR := Lib.hid (And.intro ((HEL.out.chgs hCw (by simp)).mono hCw.size) (show y.bs ≠ [] → ∀ x, y.a = some x → x.block ∉ N5 from fun h0 x hx hn => by
                      rcases h5n _ hn with h1 | h1
                      · exact HC0.out.2.2 h0 x hx h1
                      · have h2 := ro_off HEL.out (ne_u8s h0) x hx
                        have h3 := HBX.out.1.size
                        have h4 := HW.out.chg.size
                        omega))
                    have hcell5 := hCw.cell HC0.out.1 (by simp)
                    have cA5 := h5.chg.cell HBX.out.2.2.1 (by simp)
                    have HLT := Lib.hid (show w.heap.size < w5.heap.size ∧ bb < w5.heap.size from ⟨by
                      have h1 := h5.chg.size
                      have h2 := HBX.out.2.2.1
                      have h3 := cell_lt h2
                      exact Nat.lt_of_lt_of_le h3 h1, Nat.lt_of_lt_of_le HC0.out.2.1 hCw.size⟩)
                    clear HAP HT5 h5 h5n h5c cA cB hcell hCw HW
                    have HTAIL : Hid (∀ (v9 : Value) (w9 : World), Hid (Chg [] w5 w9 ∧ Lst w9 0 35 v9 (zs.map SB.val ++ [.slice y.a N1 y.c]) ∧ ∀ x ∈ bl v9, w5.heap.size ≤ x) → ∃ a6 c6, v9 = .slice a6 (lz + 1) c6 ∧ Hid ((zs ++ [y]).length = lz + 1) ∧ Hid (Wh w0 w9 N5 q p g b n (appS n S y.bs)) ∧ Hid (RS w9 N5 a5 was ∧ RS w9 N5 a6 (zs ++ [y]) ∧ (appS n S y.bs).L = S4.L ∧ (appS n S y.bs).L' = recs (zs ++ [y]) ∧ lz + 1 ≤ 1000000 + (k + 1))) := Lib.hid (by
                      intro v9 w9 HF
                      have hlz : (zs ++ [y]).length = lz + 1 := by rw [List.length_append, HLZ.out]; rfl
                      have hl9 := HF.out.2.1
                      rw [← HN1.out] at hl9
                      obtain ⟨a6, c6, hv6, h6⟩ := RS.snoc (x := y) HRS5.out.2 (fun z hz => (HW5.out.low z hz).2) HF.out.1 HYR.out.1 (by rw [HN1.out]; exact hlen0) HYR.out.2 hl9 HF.out.2.2 (by have := HRS.out.2.2.2.2; omega)
                      rw [hlz] at hv6
                      exact ⟨a6, c6, hv6, Lib.hid hlz, Lib.hid (HW5.out.kept HF.out.1), Lib.hid ⟨HRS5.out.1.kept HF.out.1, h6, by rw [HRL.out]; exact HRS.out.2.2.1, by rw [HLL.out, recs_snoc, HRS.out.2.2.2.1], by have := HRS.out.2.2.2.2; omega⟩⟩)
                    go_wp2_with fail
                    have HLM := Lib.hid (show lz ≤ 1000020 from by have := HRS.out.2.2.2.2; omega)
                    have HRO := HRS5.out.2.rom.row
                    have HE1 := Lib.hid (show Lst (w5.drew.alloc (.cells #[] 35)) 0 35 (.slice (some ⟨w5.heap.size, 0, none⟩) 0 0) [] from Lst.lit w5.drew 0 35 #[] (Nat.zero_le _) (by decide))
                    have HE2 := Lib.hid (show Lst ((w5.drew.alloc (.cells #[] 35)).alloc (.cells #[.slice y.a N1 y.c] 35)) 0 35 (.slice (some ⟨w5.heap.size, 0, none⟩) 0 0) [] from HE1.out.alloc _)
                    have HE3 := Lib.hid (show Lst ((w5.drew.alloc (.cells #[.slice y.a N1 y.c] 35)).alloc (.cells #[] 35)) 0 35 (.slice (some ⟨w5.heap.size + 1, 0, none⟩) 0 0) [] from by
                      have h := Lst.lit (w5.drew.alloc (.cells #[.slice y.a N1 y.c] 35)) 0 35 #[] (Nat.zero_le _) (by decide)
                      rw [World.size_alloc] at h
                      exact h)
                    have HR1 := Lib.hid (show Ro (w5.drew.alloc (.cells #[] 35)) w5.heap.size am (zs.map SB.val) from HRO.chgs ((Chg.refl [] w5).drew.alloc _) (by simp))
                    have HR2 := Lib.hid (show Ro ((w5.drew.alloc (.cells #[] 35)).alloc (.cells #[.slice y.a N1 y.c] 35)) w5.heap.size am (zs.map SB.val) from HRO.chgs (((Chg.refl [] w5).drew.alloc _).alloc _) (by simp))
                    have HR3 := Lib.hid (show Ro ((w5.drew.alloc (.cells #[.slice y.a N1 y.c] 35)).alloc (.cells #[] 35)) w5.heap.size am (zs.map SB.val) from HRO.chgs (((Chg.refl [] w5).drew.alloc _).alloc _) (by simp))
                    have HY2 := Lib.hid (show Ro ((w5.drew.alloc (.cells #[] 35)).alloc (.cells #[.slice y.a N1 y.c] 35)) (w5.heap.size + 2) (some ⟨w5.heap.size + 1, 0, none⟩) [.slice y.a N1 y.c] from by
                      have h := ro_one (w5.drew.alloc (.cells #[] 35)) 35 (.slice y.a N1 y.c)
                      rw [World.size_alloc] at h
                      exact h)
                    have HY3 := Lib.hid (show Ro ((w5.drew.alloc (.cells #[.slice y.a N1 y.c] 35)).alloc (.cells #[] 35)) (w5.heap.size + 1) (some ⟨w5.heap.size, 0, none⟩) [.slice y.a N1 y.c] from (ro_one w5.drew 35 (.slice y.a N1 y.c)).chgs ((Chg.refl [] _).alloc _) (by simp))
                    clear HRO
                    refine wp_region_held_drew (S := (fun W : World => W.cell? ⟨w.heap.size, 1, none⟩ = some (.slice (some ⟨bb, off, none⟩) N' c') ∧ W.cell? ⟨bb, off + k, none⟩ = some (.slice y.a N1 y.c))) (by kernel_rfl) ⟨cA5, hcell5⟩ (fun hHeld => ?_)
                    refine wpAnyH_take (i := 1) (v := ?_) rfl (by kernel_rfl) (by kernel_rfl) (by kernel_rfl) (fun _ _ _ h => h) (Or.inl ⟨by kernel_rfl, ?_⟩) hHeld ?_
                    rotate_left
                    · (intro w hSw; first | (go_simp; done) | (go_simp; with_reducible rfl))
                    (try simp only [Act.put, List.getElem_toArray, List.getElem_cons_succ, List.getElem_cons_zero, List.setIfInBounds_toArray, List.set_cons_zero, List.set_cons_succ])
                    refine wpAnyH_take (i := 3) (v := ?_) rfl (by kernel_rfl) (by kernel_rfl) (by kernel_rfl) (fun _ _ _ h => h) (Or.inl ⟨by kernel_rfl, ?_⟩) hHeld ?_
                    rotate_left
                    · (intro w hSw; first | (go_simp; done) | (go_simp; with_reducible rfl))
                    (try simp only [Act.put, List.getElem_toArray, List.getElem_cons_succ, List.getElem_cons_zero, List.setIfInBounds_toArray, List.set_cons_zero, List.set_cons_succ])
                    refine wpAnyH_take (i := 4) (v := ?_) rfl (by kernel_rfl) (by kernel_rfl) (by kernel_rfl) (fun _ _ _ h => h) (Or.inl ⟨by kernel_rfl, ?_⟩) hHeld ?_
                    rotate_left
                    · (intro w hSw; first | (go_simp; done) | (go_simp; with_reducible rfl))
                    (try simp only [Act.put, List.getElem_toArray, List.getElem_cons_succ, List.getElem_cons_zero, List.setIfInBounds_toArray, List.set_cons_zero, List.set_cons_succ])
                    refine wpAnyH_take (i := 5) (v := ?_) rfl (by kernel_rfl) (by kernel_rfl) (by kernel_rfl) (fun _ _ _ h => h) (Or.inl ⟨by kernel_rfl, ?_⟩) hHeld ?_
                    rotate_left
                    · (intro w hSw; first | (go_simp; done) | (go_simp; with_reducible rfl))
                    (try simp only [Act.put, List.getElem_toArray, List.getElem_cons_succ, List.getElem_cons_zero, List.setIfInBounds_toArray, List.set_cons_zero, List.set_cons_succ])
                    refine wpAnyH_take (i := 6) (v := ?_) rfl (by kernel_rfl) (by kernel_rfl) (by kernel_rfl) (fun _ _ _ h => h) (Or.inl ⟨by kernel_rfl, ?_⟩) hHeld ?_
                    rotate_left
                    · (intro w hSw; first | (go_simp; done) | (go_simp; with_reducible rfl))
                    (try simp only [Act.put, List.getElem_toArray, List.getElem_cons_succ, List.getElem_cons_zero, List.setIfInBounds_toArray, List.set_cons_zero, List.set_cons_succ])
                    refine wpAnyH_take (i := 7) (v := ?_) rfl (by kernel_rfl) (by kernel_rfl) (by kernel_rfl) (fun _ _ _ h => h) (Or.inl ⟨by kernel_rfl, ?_⟩) hHeld ?_
                    rotate_left
                    · (intro w hSw; first | (go_simp; done) | (go_simp; with_reducible rfl))
                    (try simp only [Act.put, List.getElem_toArray, List.getElem_cons_succ, List.getElem_cons_zero, List.setIfInBounds_toArray, List.set_cons_zero, List.set_cons_succ])
                    refine wpAnyH_ready (rs := [0,8]) (by kernel_rfl) (by simp) (AllReadyH.cons rfl (fun K hK => ?_) (AllReadyH.cons rfl (fun K hK => ?_) AllReadyH.nil))
                    · have hH := hHeld
                      (go_simp; skip)
                      refine hK.out _ _ (by exact ⟨((Chg.refl [] _).alloc _).cell hH.1 (by simp), ((Chg.refl [] _).alloc _).cell hH.2 (by simp)⟩) (fun hHq1 => ?_)
                      clear hK K hH 
                      (try simp only [Act.put, List.getElem_toArray, List.getElem_cons_succ, List.getElem_cons_zero, List.setIfInBounds_toArray, List.set_cons_zero, List.set_cons_succ])
                      refine wpAnyH_ready (rs := [2,8]) (by kernel_rfl) (by simp) (AllReadyH.cons rfl (fun K hK => ?_) (AllReadyH.cons rfl (fun K hK => ?_) AllReadyH.nil))
                      · have hH := hHq1
                        (refine step_appK (by rfl) (.tmp 134) (.tmp 135) 22 (by rfl) 35 (.slice none 0 0) 24 Try.underlying22 infoSl rfl (.slice (some ⟨w5.heap.size, 0, none⟩) 0 0) [] (by rfl) HE1.out am w5.heap.size lz cm (zs.map SB.val) (by rfl) (by rw [List.length_map]; exact HLZ.out) HR1.out (sb_one zs) (by have := HLM.out; simp; omega) (by have := HLM.out; simp; omega) ?_; intro v2 w8 K2)
                        refine hK.out _ _ (by exact ⟨AppK.old K2.out (fun x hx => by have := bl_some _ _ _ x hx; omega) hH.1 HLT.out.1, AppK.old K2.out (fun x hx => by have := bl_some _ _ _ x hx; omega) hH.2 HLT.out.2⟩) (fun hHq2 => ?_)
                        clear hK K hH hHq1
                        (try simp only [Act.put, List.getElem_toArray, List.getElem_cons_succ, List.getElem_cons_zero, List.setIfInBounds_toArray, List.set_cons_zero, List.set_cons_succ])
                        refine wpAnyH_ready (rs := [8]) (by kernel_rfl) (by simp) (AllReadyH.cons rfl (fun K hK => ?_) AllReadyH.nil)
                        have hH := hHq2
                        (go_simp; skip)
                        refine hK.out _ _ (by exact ⟨((Chg.refl [] _).alloc _).cell hH.1 (by simp), ((Chg.refl [] _).alloc _).cell hH.2 (by simp)⟩) (fun hHq3 => ?_)
                        clear hK K hH hHq2
                        (try simp only [Act.put, List.getElem_toArray, List.getElem_cons_succ, List.getElem_cons_zero, List.setIfInBounds_toArray, List.set_cons_zero, List.set_cons_succ])
                        refine wpAnyH_ready (rs := [9]) (by kernel_rfl) (by simp) (AllReadyH.cons rfl (fun K hK => ?_) AllReadyH.nil)
                        have hH := hHq3
                        (refine step_appK (by rfl) (.tmp 136) (.tmp 142) 22 (by rfl) 35 (.slice none 0 0) 24 Try.underlying22 infoSl rfl v2 (zs.map SB.val) (by rfl) (K2.out.lst.alloc _) (some ⟨w8.heap.size, 0, none⟩) (w8.heap.size + 1) 1 1 [.slice y.a N1 y.c] (by rfl) rfl (ro_one w8 _ _) (by simp [Value.oneCell']) (by have := HLM.out; rw [List.length_map, HLZ.out]; omega) (by have := HLM.out; rw [List.length_map, HLZ.out]; omega) ?_; intro v9 w9 K9)
                        refine hK.out _ _ (by exact ⟨AppK.old K9.out (v1_bl (w := w5) (((Chg.refl [] w5).drew).alloc _) (Nat.le_refl _) K2.out) hH.1 HLT.out.1, AppK.old K9.out (v1_bl (w := w5) (((Chg.refl [] w5).drew).alloc _) (Nat.le_refl _) K2.out) hH.2 HLT.out.2⟩) (fun hHq4 => ?_)
                        clear hK K hH hHq3
                        have HF := Lib.hid (lit2 (w := w5) (((Chg.refl [] w5).drew).alloc _) (Nat.le_refl _) K2.out ((Chg.refl [] _).alloc _) K9.out)
                        (try simp only [Act.put, List.getElem_toArray, List.getElem_cons_succ, List.getElem_cons_zero, List.setIfInBounds_toArray, List.set_cons_zero, List.set_cons_succ])
                        refine wpAnyH_take (i := 10) (v := ?_) rfl (by kernel_rfl) (by kernel_rfl) (by kernel_rfl) (fun _ _ _ h => h) (Or.inl ⟨by kernel_rfl, ?_⟩) hHq4 ?_
                        rotate_left
                        · (intro w hSw; first | (go_simp; done) | (go_simp; with_reducible rfl))
                        (try simp only [Act.put, List.getElem_toArray, List.getElem_cons_succ, List.getElem_cons_zero, List.setIfInBounds_toArray, List.set_cons_zero, List.set_cons_succ])
                        refine wpAnyH_done (by kernel_rfl) ?_ _
                        have hEnd := hHq4
                        (obtain ⟨a6, c6, rfl, h61, h62, h63⟩ := HTAIL.out _ _ HF; clear HF hEnd hHeld; go_wp2_with fail; go_roundw; (case rel => exact ⟨k + 1, by omega, by omega, by go_num, N5, _, a6, c6, lz + 1, zs ++ [y], rfl, h61, h62, h63⟩); (case measure => simp [intOf]; omega))
                      · have hH := hHq1
                        (go_simp; skip)
                        refine hK.out _ _ (by exact ⟨((Chg.refl [] _).alloc _).cell hH.1 (by simp), ((Chg.refl [] _).alloc _).cell hH.2 (by simp)⟩) (fun hHq5 => ?_)
                        clear hK K hH hHq1
                        (try simp only [Act.put, List.getElem_toArray, List.getElem_cons_succ, List.getElem_cons_zero, List.setIfInBounds_toArray, List.set_cons_zero, List.set_cons_succ])
                        refine wpAnyH_ready (rs := [2]) (by kernel_rfl) (by simp) (AllReadyH.cons rfl (fun K hK => ?_) AllReadyH.nil)
                        have hH := hHq5
                        (refine step_appK (by rfl) (.tmp 134) (.tmp 135) 22 (by rfl) 35 (.slice none 0 0) 24 Try.underlying22 infoSl rfl (.slice (some ⟨w5.heap.size, 0, none⟩) 0 0) [] (by rfl) HE2.out am w5.heap.size lz cm (zs.map SB.val) (by rfl) (by rw [List.length_map]; exact HLZ.out) HR2.out (sb_one zs) (by have := HLM.out; simp; omega) (by have := HLM.out; simp; omega) ?_; intro v2 w8 K2)
                        refine hK.out _ _ (by exact ⟨AppK.old K2.out (fun x hx => by have := bl_some _ _ _ x hx; omega) hH.1 HLT.out.1, AppK.old K2.out (fun x hx => by have := bl_some _ _ _ x hx; omega) hH.2 HLT.out.2⟩) (fun hHq6 => ?_)
                        clear hK K hH hHq5
                        (try simp only [Act.put, List.getElem_toArray, List.getElem_cons_succ, List.getElem_cons_zero, List.setIfInBounds_toArray, List.set_cons_zero, List.set_cons_succ])
                        refine wpAnyH_ready (rs := [9]) (by kernel_rfl) (by simp) (AllReadyH.cons rfl (fun K hK => ?_) AllReadyH.nil)
                        have hH := hHq6
                        (refine step_appK (by rfl) (.tmp 136) (.tmp 142) 22 (by rfl) 35 (.slice none 0 0) 24 Try.underlying22 infoSl rfl v2 (zs.map SB.val) (by rfl) K2.out.lst (some ⟨w5.heap.size + 1, 0, none⟩) (w5.heap.size + 2) 1 1 [.slice y.a N1 y.c] (by rfl) rfl (Ro.chgs2 HY2.out K2.out.chg (fun _ x hx hm => by injection hx with hx; subst hx; have := bl_some _ _ _ _ hm; simp at this)) (by simp [Value.oneCell']) (by have := HLM.out; rw [List.length_map, HLZ.out]; omega) (by have := HLM.out; rw [List.length_map, HLZ.out]; omega) ?_; intro v9 w9 K9)
                        refine hK.out _ _ (by exact ⟨AppK.old K9.out (v1_bl (w := w5) ((((Chg.refl [] w5).drew).alloc _).alloc _) (Nat.le_refl _) K2.out) hH.1 HLT.out.1, AppK.old K9.out (v1_bl (w := w5) ((((Chg.refl [] w5).drew).alloc _).alloc _) (Nat.le_refl _) K2.out) hH.2 HLT.out.2⟩) (fun hHq7 => ?_)
                        clear hK K hH hHq6
                        have HF := Lib.hid (lit2 (w := w5) ((((Chg.refl [] w5).drew).alloc _).alloc _) (Nat.le_refl _) K2.out (Chg.refl [] _) K9.out)
                        (try simp only [Act.put, List.getElem_toArray, List.getElem_cons_succ, List.getElem_cons_zero, List.setIfInBounds_toArray, List.set_cons_zero, List.set_cons_succ])
                        refine wpAnyH_take (i := 10) (v := ?_) rfl (by kernel_rfl) (by kernel_rfl) (by kernel_rfl) (fun _ _ _ h => h) (Or.inl ⟨by kernel_rfl, ?_⟩) hHq7 ?_
                        rotate_left
                        · (intro w hSw; first | (go_simp; done) | (go_simp; with_reducible rfl))
                        (try simp only [Act.put, List.getElem_toArray, List.getElem_cons_succ, List.getElem_cons_zero, List.setIfInBounds_toArray, List.set_cons_zero, List.set_cons_succ])
                        refine wpAnyH_done (by kernel_rfl) ?_ _
                        have hEnd := hHq7
                        (obtain ⟨a6, c6, rfl, h61, h62, h63⟩ := HTAIL.out _ _ HF; clear HF hEnd hHeld; go_wp2_with fail; go_roundw; (case rel => exact ⟨k + 1, by omega, by omega, by go_num, N5, _, a6, c6, lz + 1, zs ++ [y], rfl, h61, h62, h63⟩); (case measure => simp [intOf]; omega))
                    · have hH := hHeld
                      (go_simp; skip)
                      refine hK.out _ _ (by exact ⟨((Chg.refl [] _).alloc _).cell hH.1 (by simp), ((Chg.refl [] _).alloc _).cell hH.2 (by simp)⟩) (fun hHq8 => ?_)
                      clear hK K hH 
                      (try simp only [Act.put, List.getElem_toArray, List.getElem_cons_succ, List.getElem_cons_zero, List.setIfInBounds_toArray, List.set_cons_zero, List.set_cons_succ])
                      refine wpAnyH_ready (rs := [0]) (by kernel_rfl) (by simp) (AllReadyH.cons rfl (fun K hK => ?_) AllReadyH.nil)
                      have hH := hHq8
                      (go_simp; skip)
                      refine hK.out _ _ (by exact ⟨((Chg.refl [] _).alloc _).cell hH.1 (by simp), ((Chg.refl [] _).alloc _).cell hH.2 (by simp)⟩) (fun hHq9 => ?_)
                      clear hK K hH hHq8
                      (try simp only [Act.put, List.getElem_toArray, List.getElem_cons_succ, List.getElem_cons_zero, List.setIfInBounds_toArray, List.set_cons_zero, List.set_cons_succ])
                      refine wpAnyH_ready (rs := [2]) (by kernel_rfl) (by simp) (AllReadyH.cons rfl (fun K hK => ?_) AllReadyH.nil)
                      have hH := hHq9
                      (refine step_appK (by rfl) (.tmp 134) (.tmp 135) 22 (by rfl) 35 (.slice none 0 0) 24 Try.underlying22 infoSl rfl (.slice (some ⟨w5.heap.size + 1, 0, none⟩) 0 0) [] (by rfl) HE3.out am w5.heap.size lz cm (zs.map SB.val) (by rfl) (by rw [List.length_map]; exact HLZ.out) HR3.out (sb_one zs) (by have := HLM.out; simp; omega) (by have := HLM.out; simp; omega) ?_; intro v2 w8 K2)
                      refine hK.out _ _ (by exact ⟨AppK.old K2.out (fun x hx => by have := bl_some _ _ _ x hx; omega) hH.1 HLT.out.1, AppK.old K2.out (fun x hx => by have := bl_some _ _ _ x hx; omega) hH.2 HLT.out.2⟩) (fun hHq10 => ?_)
                      clear hK K hH hHq9
                      (try simp only [Act.put, List.getElem_toArray, List.getElem_cons_succ, List.getElem_cons_zero, List.setIfInBounds_toArray, List.set_cons_zero, List.set_cons_succ])
                      refine wpAnyH_ready (rs := [9]) (by kernel_rfl) (by simp) (AllReadyH.cons rfl (fun K hK => ?_) AllReadyH.nil)
                      have hH := hHq10
                      (refine step_appK (by rfl) (.tmp 136) (.tmp 142) 22 (by rfl) 35 (.slice none 0 0) 24 Try.underlying22 infoSl rfl v2 (zs.map SB.val) (by rfl) K2.out.lst (some ⟨w5.heap.size, 0, none⟩) (w5.heap.size + 1) 1 1 [.slice y.a N1 y.c] (by rfl) rfl (Ro.chgs2 HY3.out K2.out.chg (fun _ x hx hm => by injection hx with hx; subst hx; have := bl_some _ _ _ _ hm; simp at this)) (by simp [Value.oneCell']) (by have := HLM.out; rw [List.length_map, HLZ.out]; omega) (by have := HLM.out; rw [List.length_map, HLZ.out]; omega) ?_; intro v9 w9 K9)
                      refine hK.out _ _ (by exact ⟨AppK.old K9.out (v1_bl (w := w5) ((((Chg.refl [] w5).drew).alloc _).alloc _) (Nat.le_succ _) K2.out) hH.1 HLT.out.1, AppK.old K9.out (v1_bl (w := w5) ((((Chg.refl [] w5).drew).alloc _).alloc _) (Nat.le_succ _) K2.out) hH.2 HLT.out.2⟩) (fun hHq11 => ?_)
                      clear hK K hH hHq10
                      have HF := Lib.hid (lit2 (w := w5) ((((Chg.refl [] w5).drew).alloc _).alloc _) (Nat.le_succ _) K2.out (Chg.refl [] _) K9.out)
                      (try simp only [Act.put, List.getElem_toArray, List.getElem_cons_succ, List.getElem_cons_zero, List.setIfInBounds_toArray, List.set_cons_zero, List.set_cons_succ])
                      refine wpAnyH_take (i := 10) (v := ?_) rfl (by kernel_rfl) (by kernel_rfl) (by kernel_rfl) (fun _ _ _ h => h) (Or.inl ⟨by kernel_rfl, ?_⟩) hHq11 ?_
                      rotate_left
                      · (intro w hSw; first | (go_simp; done) | (go_simp; with_reducible rfl))
                      (try simp only [Act.put, List.getElem_toArray, List.getElem_cons_succ, List.getElem_cons_zero, List.setIfInBounds_toArray, List.set_cons_zero, List.set_cons_succ])
                      refine wpAnyH_done (by kernel_rfl) ?_ _
                      have hEnd := hHq11
                      (obtain ⟨a6, c6, rfl, h61, h62, h63⟩ := HTAIL.out _ _ HF; clear HF hEnd hHeld; go_wp2_with fail; go_roundw; (case rel => exact ⟨k + 1, by omega, by omega, by go_num, N5, _, a6, c6, lz + 1, zs ++ [y], rfl, h61, h62, h63⟩); (case measure => simp [intOf]; omega))
                  · rw [hE] at hap
                    have HAP := Lib.hid hap
                    have HLL := Lib.hid hL'
                    have HRL := Lib.hid hapL
                    clear hap hE hL' hapL
                    go_wp2_with fail
                    refine HAP.out.mono ?_
                    rintro e w5 ⟨rfl, HT5⟩
                    obtain ⟨N5, h5, h5n, h5c⟩ := HW.out.call HT5.out (HW.out.co.app y.bs)
                    have HW5 := Lib.hid h5
                    have HRS5 := Lib.hid (show RS w5 N5 a5 was ∧ RS w5 N5 am zs ∧ (appS n S y.bs).L = S4.L ∧ (appS n S y.bs).L' = recs zs ∧ lz ≤ 1000000 + (k + 1) from ⟨HRS.out.1.call h5c h5n, HRS.out.2.1.call h5c h5n, by rw [HRL.out]; exact HRS.out.2.2.1, by rw [HLL.out]; exact HRS.out.2.2.2.1, by have := HRS.out.2.2.2.2; omega⟩)
                    clear HAP HT5 h5 h5n h5c cA cB hcell HW
                    go_wp2_with fail
                    go_roundw
                    case rel => exact ⟨k + 1, by omega, by omega, by go_num, N5, _, am, cm, lz, zs, rfl, HLZ, HW5, HRS5⟩
                    case measure => simp [intOf]; omega
                · have e4 : decide (N1 ≤ 400) = false := by simpa using h400
                  have e5 : ¬ ((N1 : Int) ≤ 400) := by omega
                  clear hap
                  go_wp2_with fail
                  go_roundw
                  case rel => exact ⟨k + 1, by omega, by omega, by go_num, NN, S, am, cm, lz, zs, rfl, HLZ, HW, Lib.hid ⟨HRS.out.1, HRS.out.2.1, HRS.out.2.2.1, HRS.out.2.2.2.1, by have := HRS.out.2.2.2.2; omega⟩⟩
                  case measure => simp [intOf]; omega
              · rcases (show ¬ k < N' ∨ (k < N' ∧ ¬ k < 20) ∨ (k < N' ∧ k < 20 ∧ ¬ fr = false) from by
                  by_cases h1 : k < N'
                  · by_cases h2 : k < 20
                    · exact .inr (.inr ⟨h1, h2, fun h => hlt ⟨h1, h2, h⟩⟩)
                    · exact .inr (.inl ⟨h1, h2⟩)
                  · exact .inl h1) with h1 | ⟨h1, h2⟩ | ⟨h1, h2, h4⟩
                · have hd1 : decide (k < N') = false := by simpa using h1
                  have hd3 : ¬ ((k : Int) < (N' : Int)) := by omega
                  clear hlt h1
                  go_wp2_with fail
                  go_meet
                  case rel => exact ⟨NN, S, am, cm, zs, by rw [HLZ.out], HW.out, HRS.out.1, HRS.out.2.1, HRS.out.2.2.1, HRS.out.2.2.2.1, by rw [HLZ.out]; have := HRS.out.2.2.2.2; omega⟩
                · have hd1 : decide (k < N') = true := by simpa using h1
                  have hd2 : decide (k < 20) = false := by simpa using h2
                  have hd3 : (k : Int) < (N' : Int) := by omega
                  have hd4 : ¬ ((k : Int) < 20) := by omega
                  clear hlt h1 h2
                  go_wp2_with fail
                  go_meet
                  case rel => exact ⟨NN, S, am, cm, zs, by rw [HLZ.out], HW.out, HRS.out.1, HRS.out.2.1, HRS.out.2.2.1, HRS.out.2.2.2.1, by rw [HLZ.out]; have := HRS.out.2.2.2.2; omega⟩
                · have hd1 : decide (k < N') = true := by simpa using h1
                  have hd2 : decide (k < 20) = true := by simpa using h2
                  have hd3 : (k : Int) < (N' : Int) := by omega
                  have hd4 : (k : Int) < 20 := by omega
                  obtain rfl : fr = true := by cases fr with
                    | false => exact absurd rfl h4
                    | true => rfl
                  clear hlt h1 h2 h4
                  go_wp2_with fail
                  go_meet
                  case rel => exact ⟨NN, S, am, cm, zs, by rw [HLZ.out], HW.out, HRS.out.1, HRS.out.2.1, HRS.out.2.2.1, HRS.out.2.2.2.1, by rw [HLZ.out]; have := HRS.out.2.2.2.2; omega⟩
          case rest =>
            obtain ⟨NN, S5, am, cm, zs, rfl, h5, h5w, h5z, h5L, h5L', h5n⟩ := hcut
            clear HW6 HRS6 HZ6 HLZ HL6
            have HW5 := Lib.hid (show Wk w0 wc NN q p g b n S5 from ⟨h5.tz, h5.co.d, h5.low, h5.chg⟩)
            have HRS5 := Lib.hid (And.intro h5w h5z)
            have HS5 := Lib.hid (show S5.k = 0 ∧ SInv n S5 ∧ recs was = S5.L ∧ recs zs = S5.L' from ⟨h5.co.k, h5.tz.inv, by rw [h5L]; exact HWL.out, h5L'.symm⟩)
            obtain ⟨lz, HLZ⟩ : ∃ X, Hid (zs.length = X) := ⟨_, Lib.hid rfl⟩
            rw [HLZ.out] at h5n ⊢
            have cst := h5.chg.cell HBX.out.2.2.2.1 (by simp)
            have cak := h5.chg.cell HBX.out.2.2.2.2.1 (by simp)
            have cfr := h5.chg.cell HBX.out.2.2.2.2.2 (by simp)
            have H7 := Lib.hid (ofsteps_any wc st ak K1 ck fr hst)
            clear h5 h5w h5z h5L h5L' HWL HI4 HI45
            go_wp2_with fail
            refine H7.out.mono ?_
            rintro e w6 ⟨K, hK6, rfl, hc6⟩
            have HW6 := Lib.hid (HW5.out.kept hc6)
            have HRS6 := Lib.hid (And.intro (HRS5.out.1.kept hc6) (HRS5.out.2.kept hc6))
            clear H7 hc6 HW5 HRS5 cst cak cfr
            go_wp2_with fail
            go_loopw [17] (fun i wr => ∃ j : Nat, j ≤ K ∧ i = .int .i64 j ∧ ∃ NN, Hid (Wk w0 wr NN q p g b n (itS n j S5)) ∧ Hid (RS wr NN a5 was ∧ RS wr NN am zs)) (fun i _ => K - (intOf i).toNat)
            case atStart => exact ⟨0, by omega, rfl, NN, HW6, HRS6⟩
            case round =>
              obtain ⟨j, hj, rfl, NJ, HWJ, HRJ⟩ := hrel
              clear HW6 HRS6
              by_cases hlt : j < K
              · have hd1 : decide (j < K) = true := by simpa using hlt
                have hd2 : (j : Int) < (K : Int) := by omega
                have HST := Lib.hid (step_Z HWJ.out.tz)
                clear hlt
                go_wp2_with fail
                refine HST.out.mono ?_
                rintro e w7 ⟨rfl, HT7⟩
                obtain ⟨N7, h7, h7n, h7c⟩ := HWJ.out.step HT7.out
                have HW7 := Lib.hid (show Wk w0 w7 N7 q p g b n (itS n (j + 1) S5) from h7)
                have HR7 := Lib.hid (And.intro (HRJ.out.1.call h7c h7n) (HRJ.out.2.call h7c h7n))
                clear HST HT7 h7 h7n h7c HWJ HRJ
                go_wp2_with fail
                go_roundw
                case rel => exact ⟨j + 1, by omega, by go_num, N7, HW7, HR7⟩
                case measure => simp [intOf]; omega
              · have hd1 : decide (j < K) = false := by simpa using hlt
                have hjK : j = K := by omega
                have hd2 : ¬ ((j : Int) < (K : Int)) := by omega
                clear hlt
                have hkb : Ro wr w.heap.size ak (bls ks) := HK.out.chgs (HBX.out.1.trans HWJ.out.chg) (by simp)
                have hwsz : w.heap.size ≤ wr.heap.size := Nat.le_trans HBX.out.1.size HWJ.out.chg.size
                have hds := HWJ.out.tz.dsk
                rw [hjK] at hds
                have hcr := crash_ok wr hds ak ks ck w.heap.size hkb hwsz hks
                obtain ⟨h, LL, hop, hL1, hL2, hL3⟩ := crash_it HS5.out.1 HS5.out.2.1 (by rw [← hjK]; exact HWJ.out.tz.inv) (by rw [← hjK]; exact HWJ.out.d) ks (fun i => crashF_len hds ks i)
                have HCR := Lib.hid (show ∀ W, Chg [] wr W → Calls Try.prog 18 #[.pointer (some ⟨p, 0, none⟩), .slice ak K1 ck] W fun e w' => ∃ p' g' b', e = .returned (.pointer (some ⟨p', 0, none⟩)) ∧ Dsk w' p' g' b' n (crashF (itS n K S5).F (itS n K S5).m ks) (fun _ => none) ∧ Chg [] W w' from fun W hW => by
                  rw [← HK1.out]
                  exact (crash_ok W (hds.kept hW) ak ks ck w.heap.size (hkb.chgs hW (by simp)) (Nat.le_trans hwsz hW.size) hks).mono fun e w' ⟨p', g', b', h1, _, _, _, h2, h3⟩ => ⟨p', g', b', h1, h2, h3⟩)
                have HCR2 := Lib.hid (show ∀ W p1 g1 b1, Chg [] wr W → Dsk W p1 g1 b1 n (crashF (itS n K S5).F (itS n K S5).m ks) (fun _ => none) → Calls Try.prog 18 #[.pointer (some ⟨p1, 0, none⟩), .slice ak K1 ck] W fun e w' => ∃ p' g' b', e = .returned (.pointer (some ⟨p', 0, none⟩)) ∧ Dsk w' p' g' b' n (crashF (itS n K S5).F (itS n K S5).m ks) (fun _ => none) ∧ Chg [] W w' from fun W p1 g1 b1 hW hd => by
                  rw [← HK1.out]
                  exact (crash_ok W hd ak ks ck w.heap.size (hkb.chgs hW (by simp)) (Nat.le_trans hwsz hW.size) hks).mono fun e w' ⟨p', g', b', h1, _, _, _, h2, h3⟩ => ⟨p', g', b', h1, by rw [crash_twice] at h2; exact h2, h3⟩)
                have HOP := Lib.hid hop
                have HLL := Lib.hid (And.intro hL1 (And.intro hL2 hL3))
                generalize crashF (itS n K S5).F (itS n K S5).m ks = FX at *
                have cak := HWJ.out.chg.cell HBX.out.2.2.2.2.1 (by simp)
                have HCW := Lib.hid (HBX.out.1.trans HWJ.out.chg)
                clear hcr hds hop hL1 hL2 hL3 hjK HWJ
                go_wp2_with fail
                refine (HCR.out _ (Chg.refl _ _)).mono ?_
                rintro e w7 ⟨p1, g1, b1, rfl, hdk1, hc7⟩
                have H7 := Lib.hid (open_new w7 hdk1 h3 HOP.out)
                clear hdk1
                go_wp2_with fail
                refine H7.out.mono ?_
                rintro e w8 ⟨q8, N8, rfl, HT8, hc8⟩
                have HC8 := Lib.hid (hc7.trans hc8)
                have HFW := Lib.hid (show LL.length ≤ 1000000 from HT8.out.few)
                have cak8 := HC8.out.cell cak (by simp)
                clear H7 hc7 hc8 cak hkb
                go_upto_region 31 with fail
                have HC8D := Lib.hid (show Chg [] wr w8.drew from HC8.out.drew)
                refine wp_region_held_drew (S := (fun W : World => W.cell? ⟨w.heap.size + 1, 1, none⟩ = some (.slice ak K1 ck))) (by kernel_rfl) cak8 (fun hHeld => ?_)
                refine wpAnyH_take (i := 0) (v := ?_) rfl (by kernel_rfl) (by kernel_rfl) (by kernel_rfl) (fun _ _ _ h => h) (Or.inl ⟨by kernel_rfl, ?_⟩) hHeld ?_
                rotate_left
                · (intro w hSw; first | (go_simp; done) | (go_simp; with_reducible rfl))
                (try simp only [Act.put, List.getElem_toArray, List.getElem_cons_succ, List.getElem_cons_zero, List.setIfInBounds_toArray, List.set_cons_zero, List.set_cons_succ])
                refine wpAnyH_take (i := 1) (v := ?_) rfl (by kernel_rfl) (by kernel_rfl) (by kernel_rfl) (fun _ _ _ h => h) (Or.inl ⟨by kernel_rfl, ?_⟩) hHeld ?_
                rotate_left
                · (intro w hSw; first | (go_simp; done) | (go_simp; with_reducible rfl))
                (try simp only [Act.put, List.getElem_toArray, List.getElem_cons_succ, List.getElem_cons_zero, List.setIfInBounds_toArray, List.set_cons_zero, List.set_cons_succ])
                refine wpAnyH_take (i := 2) (v := ?_) rfl (by kernel_rfl) (by kernel_rfl) (by kernel_rfl) (fun _ _ _ h => h) (Or.inl ⟨by kernel_rfl, ?_⟩) hHeld ?_
                rotate_left
                · (intro w hSw; first | (go_simp; done) | (go_simp; with_reducible rfl))
                (try simp only [Act.put, List.getElem_toArray, List.getElem_cons_succ, List.getElem_cons_zero, List.setIfInBounds_toArray, List.set_cons_zero, List.set_cons_succ])
                refine wpAnyH_take (i := 4) (v := ?_) rfl (by kernel_rfl) (by kernel_rfl) (by kernel_rfl) (fun _ _ _ h => h) (Or.inl ⟨by kernel_rfl, ?_⟩) hHeld ?_
                rotate_left
                · (intro w hSw; first | (go_simp; done) | (go_simp; with_reducible rfl))
                (try simp only [Act.put, List.getElem_toArray, List.getElem_cons_succ, List.getElem_cons_zero, List.setIfInBounds_toArray, List.set_cons_zero, List.set_cons_succ])
                refine wpAnyH_take (i := 5) (v := ?_) rfl (by kernel_rfl) (by kernel_rfl) (by kernel_rfl) (fun _ _ _ h => h) (Or.inl ⟨by kernel_rfl, ?_⟩) hHeld ?_
                rotate_left
                · (intro w hSw; first | (go_simp; done) | (go_simp; with_reducible rfl))
                (try simp only [Act.put, List.getElem_toArray, List.getElem_cons_succ, List.getElem_cons_zero, List.setIfInBounds_toArray, List.set_cons_zero, List.set_cons_succ])
                refine wpAnyH_ready (rs := [3]) (by kernel_rfl) (by simp) (AllReadyH.cons rfl (fun K hK => ?_) AllReadyH.nil)
                have hH := hHeld
                (go_simp; go_at_call 18; refine (HCR.out _ HC8D.out).mono ?_; rintro e w9 ⟨p2, g2, b2, rfl, hdk2, hc9⟩)
                refine hK.out _ _ (by exact hc9.cell hH (by simp)) (fun hHq1 => ?_)
                clear hK K hH 
                (try simp only [Act.put, List.getElem_toArray, List.getElem_cons_succ, List.getElem_cons_zero, List.setIfInBounds_toArray, List.set_cons_zero, List.set_cons_succ])
                refine wpAnyH_ready (rs := [6]) (by kernel_rfl) (by simp) (AllReadyH.cons rfl (fun K hK => ?_) AllReadyH.nil)
                have hH := hHq1
                (go_simp; go_at_call 18; refine (HCR2.out _ _ _ _ (HC8D.out.trans hc9) hdk2).mono ?_; rintro e w10 ⟨p3, g3, b3, rfl, hdk3, hc10⟩)
                refine hK.out _ _ (by exact hc10.cell hH (by simp)) (fun hHq2 => ?_)
                clear hK K hH hHq1
                (try simp only [Act.put, List.getElem_toArray, List.getElem_cons_succ, List.getElem_cons_zero, List.setIfInBounds_toArray, List.set_cons_zero, List.set_cons_succ])
                refine wpAnyH_ready (rs := [7]) (by kernel_rfl) (by simp) (AllReadyH.cons rfl (fun K hK => ?_) AllReadyH.nil)
                have hH := hHq2
                (go_simp; go_at_call 10; refine (open_new w10 hdk3 h3 HOP.out).mono ?_; rintro e w11 ⟨q11, N11, rfl, HT11, hc11⟩)
                refine hK.out _ _ (by exact hc11.cell hH (by simp)) (fun hHq3 => ?_)
                clear hK K hH hHq2
                (try simp only [Act.put, List.getElem_toArray, List.getElem_cons_succ, List.getElem_cons_zero, List.setIfInBounds_toArray, List.set_cons_zero, List.set_cons_succ])
                refine wpAnyH_take (i := 8) (v := ?_) rfl (by kernel_rfl) (by kernel_rfl) (by kernel_rfl) (fun _ _ _ h => h) (Or.inl ⟨by kernel_rfl, ?_⟩) hHq3 ?_
                rotate_left
                · (intro w hSw; first | (go_simp; done) | (go_simp; with_reducible rfl))
                (try simp only [Act.put, List.getElem_toArray, List.getElem_cons_succ, List.getElem_cons_zero, List.setIfInBounds_toArray, List.set_cons_zero, List.set_cons_succ])
                refine wpAnyH_take (i := 9) (v := ?_) rfl (by kernel_rfl) (by kernel_rfl) (by kernel_rfl) (fun _ _ _ h => h) (Or.inl ⟨by kernel_rfl, ?_⟩) hHq3 ?_
                rotate_left
                · (intro w hSw; first | (go_simp; done) | (go_simp; with_reducible rfl))
                (try simp only [Act.put, List.getElem_toArray, List.getElem_cons_succ, List.getElem_cons_zero, List.setIfInBounds_toArray, List.set_cons_zero, List.set_cons_succ])
                refine wpAnyH_take (i := 10) (v := ?_) rfl (by kernel_rfl) (by kernel_rfl) (by kernel_rfl) (fun _ _ _ h => h) (Or.inl ⟨by kernel_rfl, ?_⟩) hHq3 ?_
                rotate_left
                · (intro w hSw; first | (go_simp; done) | (go_simp; with_reducible rfl))
                (try simp only [Act.put, List.getElem_toArray, List.getElem_cons_succ, List.getElem_cons_zero, List.setIfInBounds_toArray, List.set_cons_zero, List.set_cons_succ])
                refine wpAnyH_take (i := 11) (v := ?_) rfl (by kernel_rfl) (by kernel_rfl) (by kernel_rfl) (fun _ _ _ h => h) (Or.inl ⟨by kernel_rfl, ?_⟩) hHq3 ?_
                rotate_left
                · (intro w hSw; first | (go_simp; done) | (go_simp; with_reducible rfl))
                (try simp only [Act.put, List.getElem_toArray, List.getElem_cons_succ, List.getElem_cons_zero, List.setIfInBounds_toArray, List.set_cons_zero, List.set_cons_succ])
                refine wpAnyH_take (i := 12) (v := ?_) rfl (by kernel_rfl) (by kernel_rfl) (by kernel_rfl) (fun _ _ _ h => h) (Or.inl ⟨by kernel_rfl, ?_⟩) hHq3 ?_
                rotate_left
                · (intro w hSw; first | (go_simp; done) | (go_simp; with_reducible rfl))
                (try simp only [Act.put, List.getElem_toArray, List.getElem_cons_succ, List.getElem_cons_zero, List.setIfInBounds_toArray, List.set_cons_zero, List.set_cons_succ])
                refine wpAnyH_done (by kernel_rfl) ?_ _
                have hEnd := hHq3
                have HC11 := Lib.hid (((Chg.refl [] w8).drew.trans hc9).trans (hc10.trans hc11))
                have HT8b := Lib.hid (HT8.out.fresh HC11.out (by simp))
                have HCE := Lib.hid (HC8.out.trans HC11.out)
                have HR34 := Lib.hid (records_Z HT8b.out)
                clear hHq3 hEnd hdk2 hdk3 hc9 hc10 hc11 HC8 HC8D cak8 HCR HCR2 HT8
                go_wp2_with fail
                refine HR34.out.mono ?_
                rintro e w12 ⟨a12, now, c12, rfl, hz12, hc12⟩
                have HT11b := Lib.hid (HT11.out.fresh hc12 (by simp))
                have HRN := Lib.hid (records_rom hz12.out HFW.out HOP.out.ok)
                have HRL := Lib.hid (show recs now = LL from hz12.out.2)
                have HCE12 := Lib.hid (HCE.out.trans hc12)
                obtain ⟨ln, HLN⟩ : ∃ X, Hid (now.length = X) := ⟨_, Lib.hid rfl⟩
                have hs1 := same_any w12 a12 am now zs c12 cm HRN.out (HRJ.out.2.kept HCE12.out).rom
                rw [HRL.out, HS5.out.2.2.2, HLN.out, HLZ.out] at hs1
                obtain ⟨I5, HI5b⟩ : ∃ X, Hid (decide (LL = S5.L') = X) := ⟨_, Lib.hid rfl⟩
                rw [HI5b.out] at hs1
                have HSM := Lib.hid hs1
                rw [HLN.out]
                clear HR34 hz12 hc12 HT11 HT8b hs1 HCE
                go_wp2_with fail
                refine HSM.out.mono ?_
                rintro e w13 ⟨rfl, hq13⟩
                have HC13 := Lib.hid (show Chg [] w12 w13 from (Chg.refl [] w12).qt hq13)
                have hs2 := same_any w13 a12 a5 now was c12 c5 ((HRN.out.row.chgs HC13.out (by simp)).mono HC13.out.size |> fun h => ⟨h, fun x hx => ((HRN.out.el x hx).chgs HC13.out (by simp)).mono HC13.out.size, HRN.out.len, HRN.out.lens⟩) (HRJ.out.1.kept (HCE12.out.trans HC13.out)).rom
                rw [HRL.out, HS5.out.2.2.1, HLN.out, HLW.out] at hs2
                obtain ⟨W5, HW5b⟩ : ∃ X, Hid (decide (LL = S5.L) = X) := ⟨_, Lib.hid rfl⟩
                rw [HW5b.out] at hs2
                have HSM2 := Lib.hid hs2
                clear HSM hq13 hs2
                go_wp2_with fail
                refine HSM2.out.mono ?_
                rintro e w14 ⟨rfl, hq14⟩
                have HC14 := Lib.hid (show Chg [] w12 w14 from HC13.out.trans ((Chg.refl [] w13).qt hq14))
                have HT14 := Lib.hid (HT11b.out.fresh HC14.out (by simp))
                have HR37 := Lib.hid (records_Z HT14.out)
                clear HSM2 hq14 HC13 HT11b
                go_wp2_with fail
                refine HR37.out.mono ?_
                rintro e w15 ⟨a15, yrs, c15, rfl, hz15, hc15⟩
                have HC15 := Lib.hid (HC14.out.trans hc15)
                have HRN2 : RoM w15 a12 now := ⟨(HRN.out.row.chgs HC15.out (by simp)).mono HC15.out.size, fun x hx => ((HRN.out.el x hx).chgs HC15.out (by simp)).mono HC15.out.size, HRN.out.len, HRN.out.lens⟩
                have hs3 := same_any w15 a15 a12 yrs now c15 c12 (records_rom hz15.out HFW.out HOP.out.ok) HRN2
                rw [HRL.out, show recs yrs = LL from hz15.out.2, HLN.out, decide_eq_true rfl] at hs3
                obtain ⟨ly, HLY⟩ : ∃ X, Hid (yrs.length = X) := ⟨_, Lib.hid rfl⟩
                rw [HLY.out] at hs3 ⊢
                have HSM3 := Lib.hid hs3
                clear HR37 hz15 hc15 HT14 HRN2 hs3 HC14
                go_wp2_with fail
                refine HSM3.out.mono ?_
                rintro e w16 ⟨rfl, hq16⟩
                have HCE := Lib.hid (show Chg [] w w16 from ((HCW.out.trans HCE12.out).trans HC15.out).trans ((Chg.refl [] w15).qt hq16))
                clear HSM3 hq16 HC15 HRN HRL HCE12 HCW HFW HOP
                go_upto_region 38 with fail
                have h3cases : (K < 3 ∧ W5 = true) ∨ (K = 3 ∧ (W5 = true ∨ I5 = true)) ∨ (4 ≤ K ∧ I5 = true) := by
                  rw [← HW5b.out, ← HI5b.out]
                  rcases Nat.lt_trichotomy K 3 with h1 | h1 | h1
                  · exact .inl ⟨h1, decide_eq_true (HLL.out.2.1 h1)⟩
                  · exact .inr (.inl ⟨h1, HLL.out.1.imp (fun h => decide_eq_true h) (fun h => decide_eq_true h)⟩)
                  · exact .inr (.inr ⟨h1, decide_eq_true (HLL.out.2.2 h1)⟩)
                clear HLL HW5b HI5b
                rcases h3cases with ⟨h1, rfl⟩ | ⟨h1, h2⟩ | ⟨h1, rfl⟩
                · have e1 : decide (3 ≤ K) = false := by simp; omega
                  have e2 : ¬ ((3 : Int) ≤ (K : Int)) := by omega
                  have e3 : decide (K < 4) = true := by simp; omega
                  have e4 : (K : Int) < 4 := by omega
                  cases I5
                  all_goals
                    go_wp2_with (first | (go_at_call 8; refine (alive_any _).mono ?_; rintro e w20 ⟨rfl, hc20⟩) | fail)
                    go_ret
                    exact ⟨rfl, HCE.out.trans hc20⟩
                · subst h1
                  rcases (show (W5 = true ∧ I5 = true) ∨ (W5 = true ∧ I5 = false) ∨ (W5 = false ∧ I5 = true) from by
                    cases W5 <;> cases I5 <;> simp at h2 ⊢) with ⟨rfl, rfl⟩ | ⟨rfl, rfl⟩ | ⟨rfl, rfl⟩
                  all_goals
                    clear h2
                    go_wp2_with (first | (go_at_call 8; refine (alive_any _).mono ?_; rintro e w20 ⟨rfl, hc20⟩) | fail)
                    go_ret
                    exact ⟨rfl, HCE.out.trans hc20⟩
                · have e1 : decide (3 ≤ K) = true := by simp; omega
                  have e2 : (3 : Int) ≤ (K : Int) := by omega
                  have e3 : decide (K < 4) = false := by simp; omega
                  have e4 : ¬ ((K : Int) < 4) := by omega
                  cases W5
                  all_goals
                    go_wp2_with (first | (go_at_call 8; refine (alive_any _).mono ?_; rintro e w20 ⟨rfl, hc20⟩) | fail)
                    go_ret
                    exact ⟨rfl, HCE.out.trans hc20⟩
theorem tapeWhole_row (w : World) {z : Int} (hz : (Lit.int .i64 z).wf = true) {a : Option Addr} {xs : List SB} {c : Nat} {a' : Option Addr} {ys : List SB} {c' : Nat} (h : RoM w a xs) (h' : RoM w a' ys) {A : OfT} (hA : OfOk w A) :
    Calls Try.prog 3 #[.int .i64 z, .agg #[.slice a xs.length c, .slice a' ys.length c'], .agg A.cells.toArray] w fun e w' => e = .returned (.bool true) ∧ Below w.heap.size w w' :=
  (tapeWhole_walk w z a a' xs ys c c' A.st A.ak A.ks A.ck A.fr (bounds_i64 hz) h h' hA.st hA.ak hA.ks).mono fun e w' h => ⟨h.1, h.2.low⟩
end Go.Proofs.Ytdiemejdbakffaa
