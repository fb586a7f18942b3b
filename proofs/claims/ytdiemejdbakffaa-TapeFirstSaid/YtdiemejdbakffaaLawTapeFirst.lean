/-
  The statement TapeFirst, walked: what is appended is copied, what is read is a copy. No condition but the ranges of the arguments.
-/
import Derived.Test.YtdiemejdbakffaaRow6
namespace Go.Proofs.Ytdiemejdbakffaa
open Go.RowKit Go.Maps Go.Shelf
set_option linter.unusedVariables false
set_option linter.unusedSimpArgs false

/-- nothing under way, one half -/
structure Fi (S : TS) : Prop where
  k : S.k = 0
  h : S.h = S.h'
theorem Fi.start (F : Nat → Sec) (m : Nat → Option Sec) : Fi (calm F m 0 []) := ⟨rfl, rfl⟩
theorem Fi.app {n : Nat} {S : TS} (f : Fi S) (r : Rec) : Fi (appS n S r) := ⟨f.k, f.h⟩
theorem fi_cases {n : Nat} {S : TS} (r : Rec) : (appE n S.k S.h S.h' S.L S.L' r = 0 ∧ (appS n S r).L' = S.L' ++ [r]) ∨ (∃ E : Nat, appE n S.k S.h S.h' S.L S.L' r = E ∧ ((E : Int) == 0) = false ∧ (appS n S r).L' = S.L') := by
  by_cases h : appE n S.k S.h S.h' S.L S.L' r = 0
  · exact .inl ⟨h, by show appL n S.k S.h S.h' S.L S.L' r = _; unfold appL; rw [if_pos h]⟩
  · exact .inr ⟨_, rfl, by simp; omega, by show appL n S.k S.h S.h' S.L S.L' r = _; unfold appL; rw [if_neg h]⟩
theorem Fi.commit {n : Nat} {S : TS} (f : Fi S) (hp : S.h = S.h' → ∃ W, S.L' = S.L ++ W) : Fi (commitS n S) ∧ (commitS n S).L' = S.L' ∧ (commitS n S).L = S.L' := by
  by_cases hi : S.idle
  · have e : commitS n S = S := by unfold commitS; rw [if_pos hi]
    rw [e]
    obtain ⟨W, hW⟩ := hp hi.1
    have h2 := hi.2
    rw [hW, List.length_append] at h2
    have : W = [] := List.eq_nil_of_length_eq_zero (by omega)
    subst this
    rw [List.append_nil] at hW
    exact ⟨f, rfl, hW.symm⟩
  · rw [commit_k0 hi f.k]
    exact ⟨⟨rfl, rfl⟩, rfl, rfl⟩
set_option maxHeartbeats 16000000 in
set_option maxRecDepth 100000 in
theorem tapeFirst_walk (w : World) (z : Int) (a : Option Addr) (xs : List SB) (c : Nat) (hz : -9223372036854775808 ≤ z ∧ z ≤ 9223372036854775807) (hx : RoM w a xs) :
    Calls Try.prog 7 #[.int .i64 z, .slice a xs.length c] w fun e w' => e = .returned (.bool true) ∧ Chg [] w w' := by
  by_cases hout : z < 3 ∨ 60 < z
  · clear hx
    generalize xs.length = N
    by_cases h3 : z < 3
    · have d1 : decide (z < 3) = true := by simpa using h3
      clear hout hz
      go_enter Try.func7, Try.ntmps7
      go_wp2_with (first | (go_at_call 8; refine (alive_any _).mono ?_; rintro e w2 ⟨rfl, hc2⟩) | fail)
      go_ret
      exact ⟨rfl, hc2⟩
    · have d1 : decide (z < 3) = false := by simpa using h3
      have h6 : 60 < z := by omega
      have d2 : decide (60 < z) = true := by simpa using h6
      clear hout hz
      go_enter Try.func7, Try.ntmps7
      go_wp2_with (first | (go_at_call 8; refine (alive_any _).mono ?_; rintro e w2 ⟨rfl, hc2⟩) | fail)
      go_ret
      exact ⟨rfl, hc2⟩
  · obtain ⟨n, rfl⟩ : ∃ n : Nat, z = (n : Int) := ⟨z.toNat, by omega⟩
    have h3 : 3 ≤ n := by omega
    have h60 : n ≤ 60 := by omega
    have d1 : decide ((n : Int) < 3) = false := by simp; omega
    have d2 : decide ((60 : Int) < (n : Int)) = false := by simp; omega
    have d1' : decide (n < 3) = false := by simp; omega
    have d2' : decide (60 < n) = false := by simp; omega
    have H0 := Lib.hid (new_ex w n (by omega) (by omega))
    have HX := Lib.hid hx
    obtain ⟨N, HN⟩ : ∃ N, Hid (xs.length = N) := ⟨_, Lib.hid rfl⟩
    have hN := hx.len
    rw [HN.out] at hN ⊢
    clear hx hout hz
    go_enter Try.func7, Try.ntmps7
    go_wp2_with fail
    refine H0.out.mono ?_
    rintro e w1 ⟨p, g, b, rfl, hp, hg, hb, hd1, hc1⟩
    have H1 := Lib.hid (open_at w1 hd1 (by omega) (h := 0) (L := []) (opens_zero n))
    have hpw := hd1.ltp
    clear hd1
    go_wp2_with fail
    refine H1.out.mono ?_
    rintro e w2 ⟨q, l, rfl, ht2, hl2, hc2⟩
    have hT := Tz.start hp hg hb hc1 ht2.out hl2.out hc2
    obtain ⟨N0, hT0, hN0⟩ := hT.next
    have HW := Lib.hid (show Wn w w2 w2.heap.size N0 q p g b n (calm (fun _ => zsec) (fun _ => none) 0 []) (.slice none 0 0) [] from
      ⟨hT0, fun x hx => ⟨by rcases (hN0 x hx).1 with h | h
                            · simp at h
                            · exact h, (hN0 x hx).2⟩, hc1.trans hc2, Lst.nil _ _ _, by simp [bl, Value.ownBlock], Nat.lt_of_lt_of_le hpw hc2.size, ⟨Nat.le_trans hc1.size hc2.size, Nat.le_refl _⟩⟩)
    obtain ⟨B0, HB0⟩ : ∃ B, Hid (w2.heap.size = B) := ⟨_, Lib.hid rfl⟩
    rw [HB0.out] at HW
    clear ht2 hl2 hc2 hc1 H0 H1 hT hT0 hN0 hpw
    go_wp2_with fail
    go_loopw [9, 10] (fun v i wr => ∃ k : Nat, k ≤ N ∧ k ≤ 60 ∧ i = .int .i64 k ∧ ∃ NN S ys, Hid (Wn w wr B0 NN q p g b n S v ys) ∧ Hid (Fi S ∧ recs ys = S.L' ∧ (∀ y ∈ ys, y ∈ xs) ∧ ys.length ≤ k)) (fun _ i _ => N - (intOf i).toNat)
    case atStart => exact ⟨0, by omega, by omega, rfl, N0, _, [], HW, Lib.hid ⟨Fi.start _ _, rfl, by simp, by simp⟩⟩
    case round =>
      obtain ⟨k, hk, hk60, rfl, NN, S, ys, HW, HI⟩ := hrel
      by_cases hlt : k < N ∧ k < 60
      · have hkx : k < xs.length := by rw [HN.out]; exact hlt.1
        obtain ⟨bb, off, rfl, hbb, hcx⟩ := HX.out.at_ hkx
        have hcell0 := hcx k hkx
        unfold SB.val at hcell0
        have HEL := Lib.hid (HX.out.el _ (List.getElem_mem hkx))
        have HMEM := Lib.hid (List.getElem_mem hkx)
        have hlen0 := HX.out.lens _ (List.getElem_mem hkx)
        clear hcx
        generalize xs[k] = x at *
        obtain ⟨N1, HN1⟩ : ∃ M, Hid (x.bs.length = M) := ⟨_, Lib.hid rfl⟩
        rw [HN1.out] at hcell0 hlen0
        have hcell := HW.out.chg.cell hcell0 (by simp)
        have HCELL := Lib.hid hcell0
        have hd1 : decide (k < N) = true := by simpa using hlt.1
        have hd2 : decide (k < 60) = true := by simpa using hlt.2
        have hd3 : (k : Int) < (N : Int) := by omega
        have hd4 : (k : Int) < 60 := by omega
        clear hcell0 hlt hkx
        by_cases h400 : 400 < N1
        · have e4 : decide (400 < N1) = true := by simpa using h400
          have e5 : (400 : Int) < (N1 : Int) := by omega
          go_wp2_with fail
          go_roundw
          case rel => exact ⟨k + 1, by omega, by omega, by go_num, NN, S, ys, HW, Lib.hid ⟨HI.out.1, HI.out.2.1, HI.out.2.2.1, by have := HI.out.2.2.2; omega⟩⟩
          case measure => simp [intOf]; omega
        · have e4 : decide (400 < N1) = false := by simpa using h400
          have e5 : ¬ ((400 : Int) < (N1 : Int)) := by omega
          have hN1 : N1 ≤ 400 := by omega
          clear h400 hlen0
          have HE := Lib.hid (show Lst (wr.alloc (.cells #[] 5)) 0 5 (.slice (some ⟨wr.heap.size, 0, none⟩) 0 0) [] from Lst.lit wr 0 5 #[] (Nat.zero_le _) (by decide))
          have HRO := Lib.hid (show Ro (wr.alloc (.cells #[] 5)) w.heap.size x.a (u8s x.bs) from HEL.out.chgs (HW.out.chg.trans ((Chg.refl [] wr).alloc _)) (by simp))
          have hcell2 := ((Chg.refl [] wr).alloc (.cells #[] 5)).cell hcell (by simp)
          go_wp2_with (first
            | (at_builtin; refine wpList_appK rfl _ _ 35 rfl 5 (.int .u8 0) 1 Try.underlying35 infoU8 rfl (.slice (some ⟨wr.heap.size, 0, none⟩) 0 0) [] (by rfl) HE.out x.a w.heap.size N1 x.c (u8s x.bs) (by rfl) (by rw [u8s_length, HN1.out]) HRO.out (u8s_one x.bs) (by simp; omega) (by simp; omega) ?_; intro v4 w4 K4; obtain ⟨hW4, ⟨a4, c4, rfl, hl4⟩, hx4⟩ := HW.out.row K4.out; have HW4 := Lib.hid hW4; have HL4 := Lib.hid hl4; have HX4 := Lib.hid hx4; clear hW4 hl4 hx4 K4 HE HRO hcell hcell2; rw [HN1.out])
            | fail)
          have hap := HW4.out.append a4 c4 x.bs HL4.out HX4.out
          rw [HN1.out] at hap
          rcases fi_cases (n := n) (S := S) x.bs with ⟨hE, hL'⟩ | ⟨E, hE, e0, hL'⟩
          · rw [hE] at hap
            have HAP := Lib.hid hap
            have HLL := Lib.hid hL'
            clear hap hE hL'
            go_wp2_with fail
            refine HAP.out.mono ?_
            rintro e w5 ⟨rfl, N5, HW5, HL5, HX5⟩
            have hcell5 := HW5.out.chg.cell HCELL.out (by simp)
            clear HAP HW4 HL4 HX4
            have HYL := Lib.hid (show (ys.map SB.val).length ≤ 60 by rw [List.length_map]; have := HI.out.2.2.2; omega)
            go_wp2_with (first
              | (at_builtin; refine wpList_appK1 rfl _ _ 22 rfl 35 (.slice none 0 0) 24 Try.underlying22 infoSl rfl _ rfl _ _ (by rfl) HW5.out.lst _ (by rfl) (by simp) (by have := HYL.out; omega) (by have := HYL.out; omega) ?_; intro v6 w6 K6; have hk : AppK w5 w6 35 _ v6 (ys.map SB.val) [x.val] := (by have h9 := K6.out; rw [← HN1.out] at h9; exact h9); have hm := HW5.out.moreRow (c := c4) hk (by rw [HN1.out]; exact HL5.out) (by rw [HN1.out]; exact HX5.out); rw [HN1.out] at hm; have HW7 := Lib.hid hm.1; have HR7 := Lib.hid hm.2; clear hm hk K6 hcell5)
              | fail)
            have HI7 := Lib.hid (show Fi (appS n S x.bs) ∧ recs (ys ++ [x]) = (appS n S x.bs).L' ∧ (∀ y ∈ ys ++ [x], y ∈ xs) ∧ (ys ++ [x]).length ≤ k + 1 from ⟨HI.out.1.app _, by rw [recs_snoc, HI.out.2.1, HLL.out], fun y hy => by
              rcases List.mem_append.1 hy with hy | hy
              · exact HI.out.2.2.1 y hy
              · simp only [List.mem_cons, List.mem_nil_iff, or_false] at hy; subst hy; exact HMEM.out, by rw [List.length_append]; have := HI.out.2.2.2; simp; omega⟩)
            obtain ⟨S7, HS7⟩ : ∃ X, Hid (appS n S x.bs = X) := ⟨_, Lib.hid rfl⟩
            rw [HS7.out] at HW7 HI7
            obtain ⟨ys7, HY7⟩ : ∃ X, Hid (ys ++ [x] = X) := ⟨_, Lib.hid rfl⟩
            rw [HY7.out] at HW7 HI7
            clear HI HYL HW5 HX5 HL5 HLL HMEM HEL HCELL
            go_loopw [12] (fun j wr => ∃ jj : Nat, jj ≤ N1 ∧ j = .int .i64 jj ∧ Hid (Wn w wr B0 N5 q p g b n S7 v6 ys7) ∧ Hid (RowW wr B0 N5 v6 a4 N1)) (fun j _ => N1 - (intOf j).toNat)
            case atStart => exact ⟨0, by omega, rfl, HW7, HR7⟩
            case round =>
              obtain ⟨jj, hjj, rfl, HW8, HR8⟩ := hrel
              by_cases hj : jj < N1
              · obtain ⟨gi, u, rfl, hcu, hfu, hgi, hset⟩ := HR8.out.at_ hj
                have hj1 : decide (jj < N1) = true := by simpa using hj
                have hj2 : (jj : Int) < (N1 : Int) := by omega
                have HSET := Lib.hid (hset (.int .u8 99))
                have HPK := Lib.hid (HW8.out.poke (j := jj) hgi (.int .u8 99))
                clear hset hgi
                go_wp2_with fail
                go_roundw
                case rel => exact ⟨jj + 1, by omega, by go_num, HPK, HSET⟩
                case measure => simp [intOf]; omega
              · have hj1 : decide (jj < N1) = false := by simpa using hj
                have hj2 : ¬ ((jj : Int) < (N1 : Int)) := by omega
                clear hj HR8
                by_cases h5 : k % 5 = 4
                · have e9 : ((k : Int) % 5 == 4) = true := by simp; omega
                  have H9 := Lib.hid (commit_Z HW8.out.tz)
                  have hcm := HI7.out.1.commit (n := n) HW8.out.tz.inv.pre
                  have HI9 := Lib.hid (show Fi (commitS n S7) ∧ recs ys7 = (commitS n S7).L' ∧ (∀ y ∈ ys7, y ∈ xs) ∧ ys7.length ≤ k + 1 from ⟨hcm.1, by rw [hcm.2.1]; exact HI7.out.2.1, HI7.out.2.2⟩)
                  clear hcm h5
                  go_wp2_with fail
                  refine H9.out.mono ?_
                  rintro e w9 ⟨rfl, HT9⟩
                  obtain ⟨N9, h9, _, _⟩ := HW8.out.call HT9.out
                  have HW9 := Lib.hid h9
                  clear H9 h9 HT9
                  go_wp2_with fail
                  go_roundw
                  case rel => exact ⟨k + 1, by omega, by omega, by go_num, N9, _, ys7, HW9, HI9⟩
                  case measure => simp [intOf]; omega
                · have e9 : ((k : Int) % 5 == 4) = false := by simp; omega
                  clear h5
                  go_wp2_with fail
                  go_roundw
                  case rel => exact ⟨k + 1, by omega, by omega, by go_num, N5, _, ys7, HW8, HI7⟩
                  case measure => simp [intOf]; omega
          · rw [hE] at hap
            have HAP := Lib.hid hap
            have HLL := Lib.hid hL'
            clear hap hE hL'
            go_wp2_with fail
            refine HAP.out.mono ?_
            rintro e w5 ⟨rfl, N5, HW5, HL5, HX5⟩
            have HYL := Lib.hid True.intro
            have hm5 := RowW.of (w := w5) (B0 := B0) (N := N5) (v := u9) (a := a4) (c := c4) (r := x.bs) (by rw [HN1.out]; exact HL5.out) (by rw [HN1.out]; exact HX5.out)
            rw [HN1.out] at hm5
            have HW7 := HW5
            have HR7 := Lib.hid hm5
            clear hm5 HAP HW4 HL4 HX4
            go_wp2_with fail
            have HI7 := Lib.hid (show Fi (appS n S x.bs) ∧ recs (ys) = (appS n S x.bs).L' ∧ (∀ y ∈ ys, y ∈ xs) ∧ (ys).length ≤ k + 1 from ⟨HI.out.1.app _, by rw [HI.out.2.1, HLL.out], HI.out.2.2.1, by have := HI.out.2.2.2; omega⟩)
            obtain ⟨S7, HS7⟩ : ∃ X, Hid (appS n S x.bs = X) := ⟨_, Lib.hid rfl⟩
            rw [HS7.out] at HW7 HI7
            obtain ⟨ys7, HY7⟩ : ∃ X, Hid (ys = X) := ⟨_, Lib.hid rfl⟩
            rw [HY7.out] at HW7 HI7
            clear HI HYL HW5 HX5 HL5 HLL HMEM HEL HCELL
            go_loopw [12] (fun j wr => ∃ jj : Nat, jj ≤ N1 ∧ j = .int .i64 jj ∧ Hid (Wn w wr B0 N5 q p g b n S7 u9 ys7) ∧ Hid (RowW wr B0 N5 u9 a4 N1)) (fun j _ => N1 - (intOf j).toNat)
            case atStart => exact ⟨0, by omega, rfl, HW7, HR7⟩
            case round =>
              obtain ⟨jj, hjj, rfl, HW8, HR8⟩ := hrel
              by_cases hj : jj < N1
              · obtain ⟨gi, u, rfl, hcu, hfu, hgi, hset⟩ := HR8.out.at_ hj
                have hj1 : decide (jj < N1) = true := by simpa using hj
                have hj2 : (jj : Int) < (N1 : Int) := by omega
                have HSET := Lib.hid (hset (.int .u8 99))
                have HPK := Lib.hid (HW8.out.poke (j := jj) hgi (.int .u8 99))
                clear hset hgi
                go_wp2_with fail
                go_roundw
                case rel => exact ⟨jj + 1, by omega, by go_num, HPK, HSET⟩
                case measure => simp [intOf]; omega
              · have hj1 : decide (jj < N1) = false := by simpa using hj
                have hj2 : ¬ ((jj : Int) < (N1 : Int)) := by omega
                clear hj HR8
                by_cases h5 : k % 5 = 4
                · have e9 : ((k : Int) % 5 == 4) = true := by simp; omega
                  have H9 := Lib.hid (commit_Z HW8.out.tz)
                  have hcm := HI7.out.1.commit (n := n) HW8.out.tz.inv.pre
                  have HI9 := Lib.hid (show Fi (commitS n S7) ∧ recs ys7 = (commitS n S7).L' ∧ (∀ y ∈ ys7, y ∈ xs) ∧ ys7.length ≤ k + 1 from ⟨hcm.1, by rw [hcm.2.1]; exact HI7.out.2.1, HI7.out.2.2⟩)
                  clear hcm h5
                  go_wp2_with fail
                  refine H9.out.mono ?_
                  rintro e w9 ⟨rfl, HT9⟩
                  obtain ⟨N9, h9, _, _⟩ := HW8.out.call HT9.out
                  have HW9 := Lib.hid h9
                  clear H9 h9 HT9
                  go_wp2_with fail
                  go_roundw
                  case rel => exact ⟨k + 1, by omega, by omega, by go_num, N9, _, ys7, HW9, HI9⟩
                  case measure => simp [intOf]; omega
                · have e9 : ((k : Int) % 5 == 4) = false := by simp; omega
                  clear h5
                  go_wp2_with fail
                  go_roundw
                  case rel => exact ⟨k + 1, by omega, by omega, by go_num, N5, _, ys7, HW8, HI7⟩
                  case measure => simp [intOf]; omega
      · have hcm := HI.out.1.commit (n := n) HW.out.tz.inv.pre
        have h1 := commit_Z HW.out.tz
        have hrec : recs ys = (commitS n S).L := by rw [hcm.2.2]; exact HI.out.2.1
        have hok : okL (commitS n S).L := by rw [hcm.2.2]; exact HW.out.tz.inv.ok'
        obtain ⟨S1, HS1⟩ : ∃ X, Hid (commitS n S = X) := ⟨_, Lib.hid rfl⟩
        simp only [HS1.out] at h1 hrec hok
        have H1 := Lib.hid h1
        have HREC := Lib.hid hrec
        have HOK := Lib.hid hok
        have HIN2 := Lib.hid HI.out.2.2.1
        obtain ⟨M, HM1⟩ : ∃ M, Hid (S1.L.length = M) := ⟨_, Lib.hid rfl⟩
        have HM2 := Lib.hid (show ys.length = M ∧ ys.length ≤ k from ⟨by rw [← HM1.out, ← hrec, recs_len], HI.out.2.2.2⟩)
        have hM60 : M ≤ 60 := by have := HM2.out; omega
        clear hcm h1 hrec hok HS1
        by_cases hkN : k < N
        · have hd1 : decide (k < N) = true := by simpa using hkN
          have hd2 : decide (k < 60) = false := by simp; omega
          have hd3 : (k : Int) < (N : Int) := by omega
          have hd4 : ¬ ((k : Int) < 60) := by omega
          clear hkN hlt
          go_wp2_with fail
          refine H1.out.mono ?_
          rintro e w4 ⟨rfl, HT4⟩
          obtain ⟨N4, h4, _, _⟩ := HW.out.call HT4.out
          have HW4 := Lib.hid h4
          clear H1 HT4 h4 HW HI
          go_wp2_with fail
          go_loopw [13] (fun i wr => ∃ k : Nat, k ≤ M ∧ i = .int .i64 k ∧ Hid (Wn w wr B0 N4 q p g b n S1 u9 ys)) (fun i _ => M - (intOf i).toNat)
          case atStart => exact ⟨0, Nat.zero_le _, rfl, HW4⟩
          case round =>
            obtain ⟨k2, hk2, rfl, HW5⟩ := hrel
            have h5 := len_Z HW5.out.tz
            simp only [HM1.out] at h5
            have H5 := Lib.hid h5
            clear h5
            by_cases hk3 : k2 < M
            · have hq1 : decide (k2 < M) = true := by simpa using hk3
              have hq2 : (k2 : Int) < (M : Int) := by omega
              have hkL : k2 < S1.L.length := by rw [HM1.out]; exact hk3
              go_wp2_with fail
              refine H5.out.mono ?_
              rintro e w6 ⟨rfl, hc6⟩
              have HW6 := Lib.hid (HW5.out.kept hc6)
              have H6 := Lib.hid (read_Z HW6.out.tz k2 hkL)
              have HIN := Lib.hid (show S1.L[k2] ∈ S1.L from List.getElem_mem hkL)
              clear H5 hc6 HW5 hk3
              go_wp2_with fail
              refine H6.out.mono ?_
              rintro e w7 ⟨v7, rfl, hl7, hc7⟩
              generalize S1.L[k2] = r7 at *
              have HW7 := Lib.hid (HW6.out.kept hc7)
              have hlow := hl7.out.lt
              obtain ⟨a7, c7, rfl⟩ := hl7.out.sl8
              have hr7 := RowW.of (B0 := B0) (N := N4) (v := u9) (hl7.out.base (Nat.zero_le _)) (fun y hy => by
                have h9 := (hlow y (mem_bl.1 hy)).1
                exact ⟨fun hn => by have := (HW6.out.low y hn).2; omega, by have := HW6.out.B0w.2; omega, fun hv => by have := HW6.out.lst.bl_lt y hv; omega⟩)
              obtain ⟨R7, HR⟩ : ∃ X, Hid (r7.length = X) := ⟨_, Lib.hid rfl⟩
              have hR7 : R7 ≤ 300 := by rw [← HR.out]; exact (HOK.out r7 HIN.out).2
              simp only [HR.out] at hr7 ⊢
              have HR7 := Lib.hid hr7
              clear H6 hl7 hc7 hlow hr7 hkL HW6
              go_wp2_with fail
              go_loopw [16] (fun j wr => ∃ jj : Nat, jj ≤ R7 ∧ j = .int .i64 jj ∧ Hid (Wn w wr B0 N4 q p g b n S1 u9 ys) ∧ Hid (RowW wr B0 N4 u9 a7 R7)) (fun j _ => R7 - (intOf j).toNat)
              case atStart => exact ⟨0, by omega, rfl, HW7, HR7⟩
              case round =>
                obtain ⟨jj, hjj, rfl, HW8, HR8⟩ := hrel
                by_cases hj : jj < R7
                · obtain ⟨gi, u, rfl, hcu, hfu, hgi, hset⟩ := HR8.out.at_ hj
                  have hj1 : decide (jj < R7) = true := by simpa using hj
                  have hj2 : (jj : Int) < (R7 : Int) := by omega
                  have HSET := Lib.hid (hset (.int .u8 77))
                  have HPK := Lib.hid (HW8.out.poke (j := jj) hgi (.int .u8 77))
                  clear hset hgi
                  go_wp2_with fail
                  go_roundw
                  case rel => exact ⟨jj + 1, by omega, by go_num, HPK, HSET⟩
                  case measure => simp [intOf]; omega
                · have hj1 : decide (jj < R7) = false := by simpa using hj
                  have hj2 : ¬ ((jj : Int) < (R7 : Int)) := by omega
                  clear hj HR8
                  go_wp2_with fail
                  go_roundw
                  case rel => exact ⟨k2 + 1, by omega, by go_num, HW8⟩
                  case measure => simp [intOf]; omega
            · have hq1 : decide (k2 < M) = false := by simpa using hk3
              have hq2 : ¬ ((k2 : Int) < (M : Int)) := by omega
              clear hk3
              go_wp2_with fail
              refine H5.out.mono ?_
              rintro e w6 ⟨rfl, hc6⟩
              have HW6 := Lib.hid (HW5.out.kept hc6)
              clear H5 hc6 HW5
              go_wp2_with fail
              refine (alive_any _).mono ?_
              rintro e w7 ⟨rfl, hc7⟩
              have HW7 := Lib.hid (HW6.out.kept hc7)
              have H8 := Lib.hid (records_Z HW7.out.tz)
              clear hc7 HW6
              go_wp2_with fail
              refine H8.out.mono ?_
              rintro e w8 ⟨a8, zs, c8, rfl, hz8, hc8⟩
              have HW8 := Lib.hid (HW7.out.kept hc8)
              obtain ⟨a9, c9, hu9, hrom⟩ := HW8.out.rom HX.out HIN2.out (by have := HM2.out; omega)
              have hzl : zs.length = M := by rw [← recs_len, hz8.out.2, HM1.out]
              have hrz := hz8.out.1.rom (by omega) (fun x hx => by have := HOK.out x.bs (by rw [← hz8.out.2]; exact List.mem_map.2 ⟨x, hx, rfl⟩); have := this.2; omega)
              have h9 := same_any w8 a8 a9 zs ys c8 c9 hrz hrom
              rw [decide_eq_true (show recs zs = recs ys from hz8.out.2.trans HREC.out.symm)] at h9
              have H9 := Lib.hid h9
              have HF := Lib.hid HW8.out.chg
              subst hu9
              clear h9 hrz hrom hzl hz8 hc8 HW7 H8 HW8 HW4
              go_wp2_with fail
              refine H9.out.mono ?_
              rintro e w9 ⟨rfl, hq9⟩
              have HF2 := Lib.hid (HF.out.qt hq9)
              clear hq9 H9
              go_wp2_with fail
              go_ret
              exact ⟨rfl, HF2.out⟩
        · have hd1 : decide (k < N) = false := by simpa using hkN
          have hd3 : ¬ ((k : Int) < (N : Int)) := by omega
          clear hkN hlt
          go_wp2_with fail
          refine H1.out.mono ?_
          rintro e w4 ⟨rfl, HT4⟩
          obtain ⟨N4, h4, _, _⟩ := HW.out.call HT4.out
          have HW4 := Lib.hid h4
          clear H1 HT4 h4 HW HI
          go_wp2_with fail
          go_loopw [13] (fun i wr => ∃ k : Nat, k ≤ M ∧ i = .int .i64 k ∧ Hid (Wn w wr B0 N4 q p g b n S1 u9 ys)) (fun i _ => M - (intOf i).toNat)
          case atStart => exact ⟨0, Nat.zero_le _, rfl, HW4⟩
          case round =>
            obtain ⟨k2, hk2, rfl, HW5⟩ := hrel
            have h5 := len_Z HW5.out.tz
            simp only [HM1.out] at h5
            have H5 := Lib.hid h5
            clear h5
            by_cases hk3 : k2 < M
            · have hq1 : decide (k2 < M) = true := by simpa using hk3
              have hq2 : (k2 : Int) < (M : Int) := by omega
              have hkL : k2 < S1.L.length := by rw [HM1.out]; exact hk3
              go_wp2_with fail
              refine H5.out.mono ?_
              rintro e w6 ⟨rfl, hc6⟩
              have HW6 := Lib.hid (HW5.out.kept hc6)
              have H6 := Lib.hid (read_Z HW6.out.tz k2 hkL)
              have HIN := Lib.hid (show S1.L[k2] ∈ S1.L from List.getElem_mem hkL)
              clear H5 hc6 HW5 hk3
              go_wp2_with fail
              refine H6.out.mono ?_
              rintro e w7 ⟨v7, rfl, hl7, hc7⟩
              generalize S1.L[k2] = r7 at *
              have HW7 := Lib.hid (HW6.out.kept hc7)
              have hlow := hl7.out.lt
              obtain ⟨a7, c7, rfl⟩ := hl7.out.sl8
              have hr7 := RowW.of (B0 := B0) (N := N4) (v := u9) (hl7.out.base (Nat.zero_le _)) (fun y hy => by
                have h9 := (hlow y (mem_bl.1 hy)).1
                exact ⟨fun hn => by have := (HW6.out.low y hn).2; omega, by have := HW6.out.B0w.2; omega, fun hv => by have := HW6.out.lst.bl_lt y hv; omega⟩)
              obtain ⟨R7, HR⟩ : ∃ X, Hid (r7.length = X) := ⟨_, Lib.hid rfl⟩
              have hR7 : R7 ≤ 300 := by rw [← HR.out]; exact (HOK.out r7 HIN.out).2
              simp only [HR.out] at hr7 ⊢
              have HR7 := Lib.hid hr7
              clear H6 hl7 hc7 hlow hr7 hkL HW6
              go_wp2_with fail
              go_loopw [16] (fun j wr => ∃ jj : Nat, jj ≤ R7 ∧ j = .int .i64 jj ∧ Hid (Wn w wr B0 N4 q p g b n S1 u9 ys) ∧ Hid (RowW wr B0 N4 u9 a7 R7)) (fun j _ => R7 - (intOf j).toNat)
              case atStart => exact ⟨0, by omega, rfl, HW7, HR7⟩
              case round =>
                obtain ⟨jj, hjj, rfl, HW8, HR8⟩ := hrel
                by_cases hj : jj < R7
                · obtain ⟨gi, u, rfl, hcu, hfu, hgi, hset⟩ := HR8.out.at_ hj
                  have hj1 : decide (jj < R7) = true := by simpa using hj
                  have hj2 : (jj : Int) < (R7 : Int) := by omega
                  have HSET := Lib.hid (hset (.int .u8 77))
                  have HPK := Lib.hid (HW8.out.poke (j := jj) hgi (.int .u8 77))
                  clear hset hgi
                  go_wp2_with fail
                  go_roundw
                  case rel => exact ⟨jj + 1, by omega, by go_num, HPK, HSET⟩
                  case measure => simp [intOf]; omega
                · have hj1 : decide (jj < R7) = false := by simpa using hj
                  have hj2 : ¬ ((jj : Int) < (R7 : Int)) := by omega
                  clear hj HR8
                  go_wp2_with fail
                  go_roundw
                  case rel => exact ⟨k2 + 1, by omega, by go_num, HW8⟩
                  case measure => simp [intOf]; omega
            · have hq1 : decide (k2 < M) = false := by simpa using hk3
              have hq2 : ¬ ((k2 : Int) < (M : Int)) := by omega
              clear hk3
              go_wp2_with fail
              refine H5.out.mono ?_
              rintro e w6 ⟨rfl, hc6⟩
              have HW6 := Lib.hid (HW5.out.kept hc6)
              clear H5 hc6 HW5
              go_wp2_with fail
              refine (alive_any _).mono ?_
              rintro e w7 ⟨rfl, hc7⟩
              have HW7 := Lib.hid (HW6.out.kept hc7)
              have H8 := Lib.hid (records_Z HW7.out.tz)
              clear hc7 HW6
              go_wp2_with fail
              refine H8.out.mono ?_
              rintro e w8 ⟨a8, zs, c8, rfl, hz8, hc8⟩
              have HW8 := Lib.hid (HW7.out.kept hc8)
              obtain ⟨a9, c9, hu9, hrom⟩ := HW8.out.rom HX.out HIN2.out (by have := HM2.out; omega)
              have hzl : zs.length = M := by rw [← recs_len, hz8.out.2, HM1.out]
              have hrz := hz8.out.1.rom (by omega) (fun x hx => by have := HOK.out x.bs (by rw [← hz8.out.2]; exact List.mem_map.2 ⟨x, hx, rfl⟩); have := this.2; omega)
              have h9 := same_any w8 a8 a9 zs ys c8 c9 hrz hrom
              rw [decide_eq_true (show recs zs = recs ys from hz8.out.2.trans HREC.out.symm)] at h9
              have H9 := Lib.hid h9
              have HF := Lib.hid HW8.out.chg
              subst hu9
              clear h9 hrz hrom hzl hz8 hc8 HW7 H8 HW8 HW4
              go_wp2_with fail
              refine H9.out.mono ?_
              rintro e w9 ⟨rfl, hq9⟩
              have HF2 := Lib.hid (HF.out.qt hq9)
              clear hq9 H9
              go_wp2_with fail
              go_ret
              exact ⟨rfl, HF2.out⟩
theorem tapeFirst_row (w : World) {z : Int} (hz : (Lit.int .i64 z).wf = true) {a : Option Addr} {xs : List SB} {c : Nat} (h : RoM w a xs) :
    Calls Try.prog 7 #[.int .i64 z, .slice a xs.length c] w fun e w' => e = .returned (.bool true) ∧ Below w.heap.size w w' :=
  (tapeFirst_walk w z a xs c (bounds_i64 hz) h).mono fun e w' h => ⟨h.1, h.2.low⟩
end Go.Proofs.Ytdiemejdbakffaa
