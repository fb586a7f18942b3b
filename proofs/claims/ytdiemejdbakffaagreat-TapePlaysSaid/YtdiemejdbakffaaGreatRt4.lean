/-
  Contract of the document's parse (tape). No claim of its own.
-/
import Derived.Test.YtdiemejdbakffaaGreatJ7
namespace Go.Proofs.YtdiemejdbakffaaGreat
open Go.RowKit Go.Deep Go.Shelf Go.Maps
set_option linter.unusedVariables false
set_option linter.unusedSimpArgs false

theorem Lst.up {w : World} {e : TypeId} {v : Value} {xs : List Value} {B : Nat} (h : Lst w 0 e v xs) (hB : ∀ x ∈ bl v, B ≤ x) : Lst w B e v xs := by
  refine ⟨h.1, ?_⟩
  rcases h.2 with h1 | ⟨g, cap, cur, h0, hb, h3⟩
  · exact .inl h1
  · exact .inr ⟨g, cap, cur, h0, hB g (by rw [h0, mem_bl]; rfl), h3⟩
/-- bytes are so many frames -/
def Parses (bs : List UInt8) (n : Nat) : Prop := ∃ L, okL L ∧ frs L = bs ∧ L.length = n
theorem not_parse {A : List Rec} {bs rest : List UInt8} {n : Nat} (hA : okL A) (h : frs A ++ rest = bs) (hne : rest ≠ []) (hb : ¬ begs rest) : ¬ Parses bs n := fun ⟨L, h1, h2, _⟩ => hb (frs_begs hA h1 (h.trans h2.symm) hne)
/-- parse under way -/
structure PaAt (w wr : World) (v : Value) (a : Option Addr) (xs : List SB) (rest bs : List UInt8) (c : Nat) : Prop where
  rl : RL wr w.heap.size v xs
  ok : okL (recs xs)
  eq : frs (recs xs) ++ rest = bs
  ro : Ro w w.heap.size a (u8s rest)
  cap : rest.length ≤ c ∧ c ≤ 9223372036854775807
  chg : Chg [] w wr
set_option maxHeartbeats 2000000 in
set_option maxRecDepth 100000 in
theorem parse_any (w : World) (a : Option Addr) (bs : List UInt8) (c n : Nat) (hro : Ro w w.heap.size a (u8s bs)) (hc : bs.length ≤ c) (h63 : c ≤ 9223372036854775807) (hl : bs.length ≤ 1000000) :
    Calls Tryz.prog 35 #[.slice a bs.length c, .int .i64 (n : Int)] w fun e w' => ∃ a' xs c' ok, e = .returned (.tuple #[.slice a' xs.length c', .bool ok]) ∧ Chg [] w w' ∧ (ok = true → RL w' w.heap.size (.slice a' xs.length c') xs ∧ okL (recs xs) ∧ frs (recs xs) = bs ∧ xs.length = n) ∧ (ok = false → ¬ Parses bs n) := by
  have HP0 := Lib.hid (show PaAt w w (.slice none 0 0) a [] bs bs c from ⟨RL.nil _ _, okL_nil, by simp [recs, frs], hro, ⟨hc, h63⟩, Chg.refl _ _⟩)
  obtain ⟨nb0, HNB0⟩ : ∃ x, Hid (bs.length = x) := ⟨_, Lib.hid rfl⟩
  rw [HNB0.out] at hl ⊢
  clear hro hc h63
  go_enter Tryz.func35, Tryz.ntmps35
  go_wp2
  go_loopw [0, 6] (fun b v wr => ∃ a xs rest c nr, b = .slice a nr c ∧ Hid (rest.length = nr) ∧ Hid (PaAt w wr v a xs rest bs c)) (fun b _ _ => (match b with | .slice _ n _ => n | _ => 0))
  case atStart => exact ⟨a, [], bs, c, nb0, rfl, HNB0, HP0⟩
  case round =>
    clear HP0
    obtain ⟨a, xs, rest, c, nr, rfl, HNR, HP⟩ := hrel
    have hnr : nr ≤ 1000000 := by
      have h1 := congrArg List.length HP.out.eq
      have h2 := HNR.out
      have h3 := HNB0.out
      rw [List.length_append] at h1
      omega
    obtain ⟨av, cv0, rfl⟩ := HP.out.rl.form
    by_cases h0 : nr = 0
    · subst h0
      have hr : rest = [] := List.eq_nil_of_length_eq_zero HNR.out
      have HE := Lib.hid (show frs (recs xs) = bs from by have := HP.out.eq; rw [hr, List.append_nil] at this; exact this)
      obtain ⟨m, HM⟩ : ∃ m, Hid (xs.length = m) := ⟨_, Lib.hid rfl⟩
      rw [HM.out]
      clear hr
      by_cases hmn : m = n
      · have hb1 : ((m : Int) == (n : Int)) = true := by simp; omega
        have HMN := Lib.hid hmn
        clear hmn
        go_wp2
        go_ret2
        exact ⟨av, xs, cv0, true, by rw [HM.out]; rfl, HP.out.chg, fun _ => ⟨HP.out.rl, HP.out.ok, HE.out, by rw [HM.out]; exact HMN.out⟩, fun h => nomatch h⟩
      · have hb1 : ((m : Int) == (n : Int)) = false := by simp; omega
        have HMN := Lib.hid hmn
        clear hmn
        go_wp2
        go_ret2
        exact ⟨av, xs, cv0, false, by rw [HM.out]; rfl, HP.out.chg, (fun h => nomatch h), fun _ ⟨L, h1, h2, h3⟩ => HMN.out (by
          have := frs_inj HP.out.ok h1 (HE.out.trans h2.symm)
          rw [← HM.out, ← h3, ← this, recs_len])⟩
    · have hd0 : decide (0 < nr) = true := by simp; omega
      have hne : rest ≠ [] := fun e => h0 (by rw [← HNR.out, e]; rfl)
      by_cases h3 : nr < 3
      · have hd3 : decide ((nr : Int) < 3) = true := by simp; omega
        have HNP := Lib.hid (not_parse (n := n) HP.out.ok HP.out.eq hne (by rw [begs_iff, HNR.out]; omega))
        clear hne h0 h3
        go_wp2
        go_ret2
        exact ⟨none, [], 0, false, rfl, HP.out.chg, (fun h => nomatch h), fun _ => HNP.out⟩
      · have hd3 : decide ((nr : Int) < 3) = false := by simp; omega
        have hn3 : 3 ≤ nr := by omega
        have hnI0 : (0 : Int) < (nr : Int) := by omega
        have hnI1 : (1 : Int) < (nr : Int) := by omega
        have hnN1 : 1 < nr := by omega
        have hnN0 : 0 < nr := by omega
        have HNE := Lib.hid hne
        clear hne h0 h3
        obtain ⟨b, off, rfl, hb, hcx⟩ := HP.out.ro.u8 (by rw [HNR.out]; omega)
        have c0 := HP.out.chg.cell (hcx 0 (by rw [HNR.out]; omega)) (by simp)
        have c1 := HP.out.chg.cell (hcx 1 (by rw [HNR.out]; omega)) (by simp)
        have g0 : (rest.getD 0 0).toNat < 256 := UInt8.toNat_lt _
        have g1 : (rest.getD 1 0).toNat < 256 := UInt8.toNat_lt _
        have HM := Lib.hid (show nb (rest.take 2) = (rest.getD 0 0).toNat * 256 + (rest.getD 1 0).toNat from by
          have := HNR.out
          rw [nb_step rest 1 (by omega), nb_step rest 0 (by omega), List.take_zero, nb_nil]
          omega)
        generalize (rest.getD 0 0).toNat = x0 at *
        generalize (rest.getD 1 0).toNat = x1 at *
        obtain ⟨p0, hp0⟩ : ∃ p, p = x0 * 256 := ⟨_, rfl⟩
        obtain ⟨k, hk⟩ : ∃ p, p = p0 + x1 := ⟨_, rfl⟩
        have HK := Lib.hid (show nb (rest.take 2) = k from by rw [HM.out]; omega)
        have u0 : IntKind.i64.wrap (x0 : Int) = (x0 : Int) := by rw [IntKind.wrap_i64]; omega
        have u1 : IntKind.i64.wrap (x1 : Int) = (x1 : Int) := by rw [IntKind.wrap_i64]; omega
        have w0 : IntKind.i64.wrap ((x0 : Int) * 256) = (p0 : Int) := by rw [IntKind.wrap_i64]; omega
        have w1 : IntKind.i64.wrap ((p0 : Int) + (x1 : Int)) = (k : Int) := by rw [IntKind.wrap_i64]; omega
        have hk16 : k ≤ 65535 := by omega
        have hst : (fun W : World => W.cell? ⟨b, off, none⟩ = some (.int .u8 (x0 : Int)) ∧ W.cell? ⟨b, off + 1, none⟩ = some (.int .u8 (x1 : Int))) wr.drew := ⟨c0, c1⟩
        clear hp0 hk HM hcx c0 c1 g0 g1
        go_upto_region 5 with fail
        refine wp_region_held_drew (S := (fun W : World => W.cell? ⟨b, off, none⟩ = some (.int .u8 (x0 : Int)) ∧ W.cell? ⟨b, off + 1, none⟩ = some (.int .u8 (x1 : Int)))) (by kernel_rfl) hst (fun hHeld => ?_)
        refine wpAnyH_take (i := 0) (v := ?_) rfl (by kernel_rfl) (by kernel_rfl) (by kernel_rfl) (fun _ _ _ h => h) (Or.inl ⟨by kernel_rfl, ?_⟩) hHeld ?_
        rotate_left
        · (intro w hSw; first | (go_simp; done) | (go_simp; with_reducible rfl))
        (try simp only [Act.put, List.getElem_toArray, List.getElem_cons_succ, List.getElem_cons_zero, List.setIfInBounds_toArray, List.set_cons_zero, List.set_cons_succ])
        refine wpAnyH_take (i := 1) (v := ?_) rfl (by kernel_rfl) (by kernel_rfl) (by kernel_rfl) (fun _ _ _ h => h) (Or.inl ⟨by kernel_rfl, ?_⟩) hHeld ?_
        rotate_left
        · (intro w hSw; first | (go_simp; done) | (go_simp; with_reducible rfl))
        (try simp only [Act.put, List.getElem_toArray, List.getElem_cons_succ, List.getElem_cons_zero, List.setIfInBounds_toArray, List.set_cons_zero, List.set_cons_succ])
        refine wpAnyH_take (i := 2) (v := ?_) rfl (by kernel_rfl) (by kernel_rfl) (by kernel_rfl) (fun _ _ _ h => h) (Or.inl ⟨by kernel_rfl, ?_⟩) hHeld ?_
        rotate_left
        · (intro w hSw; first | (go_simp; done) | (go_simp; with_reducible rfl))
        (try simp only [Act.put, List.getElem_toArray, List.getElem_cons_succ, List.getElem_cons_zero, List.setIfInBounds_toArray, List.set_cons_zero, List.set_cons_succ])
        refine wpAnyH_take (i := 3) (v := ?_) rfl (by kernel_rfl) (by kernel_rfl) (by kernel_rfl) (fun _ _ _ h => h) (Or.inl ⟨by kernel_rfl, ?_⟩) hHeld ?_
        rotate_left
        · (intro w hSw; first | (go_simp; done) | (go_simp; with_reducible rfl))
        (try simp only [Act.put, List.getElem_toArray, List.getElem_cons_succ, List.getElem_cons_zero, List.setIfInBounds_toArray, List.set_cons_zero, List.set_cons_succ])
        refine wpAnyH_take (i := 4) (v := ?_) rfl (by kernel_rfl) (by kernel_rfl) (by kernel_rfl) (fun _ _ _ h => h) (Or.inl ⟨by kernel_rfl, ?_⟩) hHeld ?_
        rotate_left
        · (intro w hSw; first | (go_simp; done) | (go_simp; with_reducible rfl))
        (try simp only [Act.put, List.getElem_toArray, List.getElem_cons_succ, List.getElem_cons_zero, List.setIfInBounds_toArray, List.set_cons_zero, List.set_cons_succ])
        refine wpAnyH_take (i := 5) (v := ?_) rfl (by kernel_rfl) (by kernel_rfl) (by kernel_rfl) (fun _ _ _ h => h) (Or.inl ⟨by kernel_rfl, ?_⟩) hHeld ?_
        rotate_left
        · (intro w hSw; first | (go_simp; done) | (go_simp; with_reducible rfl))
        (try simp only [Act.put, List.getElem_toArray, List.getElem_cons_succ, List.getElem_cons_zero, List.setIfInBounds_toArray, List.set_cons_zero, List.set_cons_succ])
        refine wpAnyH_take (i := 6) (v := ?_) rfl (by kernel_rfl) (by kernel_rfl) (by kernel_rfl) (fun _ _ _ h => h) (Or.inl ⟨by kernel_rfl, ?_⟩) hHeld ?_
        rotate_left
        · (intro w hSw; first | (go_simp; done) | (go_simp; with_reducible rfl))
        (try simp only [Act.put, List.getElem_toArray, List.getElem_cons_succ, List.getElem_cons_zero, List.setIfInBounds_toArray, List.set_cons_zero, List.set_cons_succ])
        refine wpAnyH_take (i := 7) (v := ?_) rfl (by kernel_rfl) (by kernel_rfl) (by kernel_rfl) (fun _ _ _ h => h) (Or.inl ⟨by kernel_rfl, ?_⟩) hHeld ?_
        rotate_left
        · (intro w hSw; first | (go_simp; done) | (go_simp; with_reducible rfl))
        (try simp only [Act.put, List.getElem_toArray, List.getElem_cons_succ, List.getElem_cons_zero, List.setIfInBounds_toArray, List.set_cons_zero, List.set_cons_succ])
        refine wpAnyH_take (i := 8) (v := ?_) rfl (by kernel_rfl) (by kernel_rfl) (by kernel_rfl) (fun _ _ _ h => h) (Or.inl ⟨by kernel_rfl, ?_⟩) hHeld ?_
        rotate_left
        · (intro w hSw; first | (go_simp; done) | (go_simp; with_reducible rfl))
        (try simp only [Act.put, List.getElem_toArray, List.getElem_cons_succ, List.getElem_cons_zero, List.setIfInBounds_toArray, List.set_cons_zero, List.set_cons_succ])
        refine wpAnyH_take (i := 9) (v := ?_) rfl (by kernel_rfl) (by kernel_rfl) (by kernel_rfl) (fun _ _ _ h => h) (Or.inl ⟨by kernel_rfl, ?_⟩) hHeld ?_
        rotate_left
        · (intro w hSw; first | (go_simp; done) | (go_simp; with_reducible rfl))
        (try simp only [Act.put, List.getElem_toArray, List.getElem_cons_succ, List.getElem_cons_zero, List.setIfInBounds_toArray, List.set_cons_zero, List.set_cons_succ])
        refine wpAnyH_take (i := 10) (v := ?_) rfl (by kernel_rfl) (by kernel_rfl) (by kernel_rfl) (fun _ _ _ h => h) (Or.inl ⟨by kernel_rfl, ?_⟩) hHeld ?_
        rotate_left
        · (intro w hSw; first | (go_simp; done) | (go_simp; with_reducible rfl))
        (try simp only [Act.put, List.getElem_toArray, List.getElem_cons_succ, List.getElem_cons_zero, List.setIfInBounds_toArray, List.set_cons_zero, List.set_cons_succ])
        refine wpAnyH_done (by kernel_rfl) ?_ _
        have hEnd := hHeld
        clear hEnd hHeld hst u0 u1 w0 w1
        by_cases ha : k < 1
        · have d1 : decide ((k : Int) < 1) = true := by simp; omega
          have HNP := Lib.hid (not_parse (n := n) HP.out.ok HP.out.eq HNE.out (by rw [begs_iff, HNR.out, HK.out]; omega))
          go_wp2
          go_ret2
          exact ⟨none, [], 0, false, rfl, HP.out.chg.drew, (fun h => nomatch h), fun _ => HNP.out⟩
        · have d1 : decide ((k : Int) < 1) = false := by simp; omega
          by_cases hbb : 300 < k
          · have d2 : decide ((300 : Int) < (k : Int)) = true := by simp; omega
            have HNP := Lib.hid (not_parse (n := n) HP.out.ok HP.out.eq HNE.out (by rw [begs_iff, HNR.out, HK.out]; omega))
            go_wp2
            go_ret2
            exact ⟨none, [], 0, false, rfl, HP.out.chg.drew, (fun h => nomatch h), fun _ => HNP.out⟩
          · have d2 : decide ((300 : Int) < (k : Int)) = false := by simp; omega
            by_cases hcc : nr - 2 < k
            · have d3 : decide ((nr : Int) - 2 < (k : Int)) = true := by simp; omega
              have HNP := Lib.hid (not_parse (n := n) HP.out.ok HP.out.eq HNE.out (by rw [begs_iff, HNR.out, HK.out]; omega))
              go_wp2
              go_ret2
              exact ⟨none, [], 0, false, rfl, HP.out.chg.drew, (fun h => nomatch h), fun _ => HNP.out⟩
            · have d3 : decide ((nr : Int) - 2 < (k : Int)) = false := by simp; omega
              have HBG := Lib.hid (show begs rest from by rw [begs_iff, HNR.out, HK.out]; omega)
              obtain ⟨r, X, hr, hrx⟩ := HBG.out
              have hkr : r.length = k := by rw [← HK.out]; exact (begs_len hr hrx).symm
              obtain ⟨s, hs⟩ : ∃ s, s = 2 + k := ⟨_, rfl⟩
              have hlen : nr = 2 + k + X.length := by rw [← HNR.out, hrx, List.length_append, frame_len, hkr]
              have m1 : IntKind.i64.wrap (2 + (k : Int)) = (s : Int) := by rw [IntKind.wrap_i64]; omega
              have hcap := HP.out.cap
              rw [HNR.out] at hcap
              have hci : (c = 2) = False := by simp; omega
              have e1 : (s : Int) ≤ (nr : Int) := by omega
              have e2 : (nr : Int) ≤ (c : Int) := by omega
              have e3 : (2 : Int) ≤ (s : Int) := by omega
              have e4 : (s : Int) ≤ (c : Int) := by omega
              have e5 : (2 : Int) ≤ (c : Int) := by omega
              have HRX := Lib.hid hrx
              have HRR := Lib.hid (And.intro hr hkr)
              have HNX := Lib.hid (And.intro hlen hs)
              clear hrx hr hkr hlen hs HBG ha hbb hcc
              have hro2 := (HP.out.ro.drop 2 c (by rw [u8s_length, HNR.out]; omega)).take k
              rw [if_neg (by omega), show ((u8s rest).drop 2).take k = u8s r from by
                rw [HRX.out, ← HRR.out.2, frame, List.append_assoc]
                simp only [u8s, List.map_append]
                rw [List.drop_append_of_le_length (by simp), List.drop_eq_nil_of_le (by simp), List.nil_append, List.take_left' (by simp)]] at hro2
              have HRS := Lib.hid (show Ro (wr.drew.alloc (.cells #[] 5)) w.heap.size (some ⟨b, off + 2, none⟩) (u8s r) from hro2.chgs (HP.out.chg.drew.alloc _) (by simp))
              have HE := Lib.hid (show Lst (wr.drew.alloc (.cells #[] 5)) 0 5 (.slice (some ⟨wr.heap.size, 0, none⟩) 0 0) [] from Lst.lit wr.drew 0 5 #[] (Nat.zero_le _) (by decide))
              have hro3 := HP.out.ro.drop s c (by rw [u8s_length, HNR.out]; omega)
              rw [show (u8s rest).drop s = u8s X from by
                rw [HRX.out, HNX.out.2, ← HRR.out.2, frame, List.append_assoc]
                simp only [u8s, List.map_append]
                rw [← List.append_assoc, List.drop_left' (by simp)]] at hro3
              have HRO3 := Lib.hid hro3
              have HXL := Lib.hid (show xs.length ≤ 1000000 from by
                have h1 := frs_ge HP.out.ok
                have h2 := congrArg List.length HP.out.eq
                rw [List.length_append, HNB0.out] at h2
                rw [recs_len] at h1
                omega)
              have HNEXT := Lib.hid (show ∀ (a8 : Option Addr) (c8 : Nat) (v9 : Value) (w8 w9 : World), AppK (wr.drew.alloc (.cells #[] 5)) w8 5 (.slice (some ⟨wr.heap.size, 0, none⟩) 0 0) (.slice a8 r.length c8) [] (u8s r) → AppK w8 w9 37 (.slice av xs.length cv0) v9 (xs.map SB.val) [SB.val ⟨a8, r, c8⟩] → RL w9 w.heap.size v9 (xs ++ [⟨a8, r, c8⟩]) ∧ Chg [] w w9 from fun a8 c8 v9 w8 w9 K8 K9 => by
                have h8 : Chg [] wr w8 := ((Chg.refl [] wr).drew.alloc _).then K8.chg (fun x hx => .inr (by have := bl_some _ _ _ x hx; omega))
                have hl8 : Lst w8 w.heap.size 5 (SB.val ⟨a8, r, c8⟩) (u8s r) := Lst.up K8.lst (fun x hx => by
                  rcases K8.bl x hx with h1 | h1
                  · have := bl_some _ _ _ x h1; have := HP.out.chg.size; omega
                  · have := HP.out.chg.size; rw [World.size_alloc] at h1; have h5 : wr.drew.heap.size = wr.heap.size := rfl; omega)
                have hm := (HP.out.rl.kept h8).more (x := ⟨a8, r, c8⟩) hl8 (Nat.le_trans HP.out.chg.size h8.size) K9
                exact ⟨hm.1, (HP.out.chg.trans h8).then hm.2 (fun x hx => .inr (HP.out.rl.low x hx))⟩)
              have HEQ := Lib.hid (show ∀ a8 c8, recs (xs ++ [(⟨a8, r, c8⟩ : SB)]) = recs xs ++ [r] from fun a8 c8 => recs_snoc _ _)
              have HLS := Lib.hid (show ∀ w8, AppK (wr.drew.alloc (.cells #[] 5)) w8 5 (.slice (some ⟨wr.heap.size, 0, none⟩) 0 0) (.slice none 0 0) [] [] ∨ True from fun _ => .inr trivial)
              clear hro2 hro3 HLS
              have HK8 := Lib.hid (show ∀ (v8 : Value) (w8 : World), AppK (wr.drew.alloc (.cells #[] 5)) w8 5 (.slice (some ⟨wr.heap.size, 0, none⟩) 0 0) v8 [] (u8s r) → Lst w8 0 37 (.slice av xs.length cv0) (xs.map SB.val) from fun v8 w8 K8 => HP.out.rl.lst.kept0 (((Chg.refl [] wr).drew.alloc _).then K8.chg (fun x hx => .inr (by have := bl_some _ _ _ x hx; omega))))
              rcases (show (c = s) = True ∨ (c = s) = False by by_cases h : c = s <;> simp [h]) with hcs | hcs
              all_goals
                go_wp2_with (first
                  | (at_builtin; refine wpList_appK rfl _ _ 37 rfl 5 (.int .u8 0) 1 Tryz.underlying37 infoU8 rfl (.slice (some ⟨wr.heap.size, 0, none⟩) 0 0) [] (by rfl) HE.out (some ⟨b, off + 2, none⟩) w.heap.size (s - 2) (c - 2) (u8s r) (by rfl) (by rw [u8s_length, HRR.out.2]; have := HNX.out.2; omega) HRS.out (u8s_one r) (by simp; omega) (by simp; omega) ?_; intro v8 w8 K8; obtain ⟨a8, c8, rfl⟩ := (show Lst w8 0 5 v8 (u8s r) from K8.out.lst).sl8; have hl8 := HK8.out _ _ K8.out)
                  | (at_builtin; refine wpList_appK1 rfl _ _ 38 rfl 37 (.slice none 0 0) 24 Tryz.underlying38 infoSl rfl _ rfl _ _ (by rfl) hl8 _ (by rfl) (by simp) (by have := HXL.out; rw [List.length_map]; omega) (by have := HXL.out; rw [List.length_map]; omega) ?_; intro v9 w9 K9)
                  | fail)
              · have hro := HRO3.out
                rw [if_pos (of_eq_true hcs)] at hro
                have hX : X.length = nr - s := by have := HNX.out; omega
                have hnx := HNEXT.out a8 c8 v9 w8 w9 K8.out K9.out
                exact ⟨⟨_, xs ++ [⟨a8, r, c8⟩], X, _, _, rfl, Lib.hid hX, Lib.hid ⟨hnx.1, by rw [HEQ.out]; exact HP.out.ok.snoc HRR.out.1, by rw [HEQ.out, frs_snoc, List.append_assoc, ← HRX.out]; exact HP.out.eq, (by first | exact hro | simpa [Addr.add, show ¬ s = 0 from by omega] using hro), ⟨by omega, by have := HP.out.cap; omega⟩, hnx.2⟩⟩, by show nr - s < nr; omega⟩
              · have hro := HRO3.out
                rw [if_neg (fun h => of_eq_false hcs h)] at hro
                have hX : X.length = nr - s := by have := HNX.out; omega
                have hnx := HNEXT.out a8 c8 v9 w8 w9 K8.out K9.out
                exact ⟨⟨_, xs ++ [⟨a8, r, c8⟩], X, _, _, rfl, Lib.hid hX, Lib.hid ⟨hnx.1, by rw [HEQ.out]; exact HP.out.ok.snoc HRR.out.1, by rw [HEQ.out, frs_snoc, List.append_assoc, ← HRX.out]; exact HP.out.eq, (by first | exact hro | simpa [Addr.add, show ¬ s = 0 from by omega] using hro), ⟨by omega, by have := HP.out.cap; omega⟩, hnx.2⟩⟩, by show nr - s < nr; omega⟩
end Go.Proofs.YtdiemejdbakffaaGreat
