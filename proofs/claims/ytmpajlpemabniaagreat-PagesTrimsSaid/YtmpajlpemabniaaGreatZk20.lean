/-
  Contract of package tape's Replace. No claim of its own.
-/
import Derived.Test.YtmpajlpemabniaaGreatZk19
namespace Go.Proofs.YtmpajlpemabniaaGreat
open Go.RowKit Go.Deep Go.Shelf
set_option linter.unusedVariables false
set_option linter.unusedSimpArgs false

def replE (n k : Nat) (xs : List SB) : Nat := if ¬ allR xs then 1 else if 0 < k then 131 else if hsec n * 64 < (frs (recs xs)).length then 61 else 0
def replH (n k h h' : Nat) (xs : List SB) : Nat := if replE n k xs = 0 then 1 - h else h'
def replL (n k : Nat) (L' : List Rec) (xs : List SB) : List Rec := if replE n k xs = 0 then recs xs else L'
section
variable {w : World} {l : List Nat} {q p n h h' : Nat} {L L' : List Rec} {k : Nat} {vF vE vF' vE' : Value}
theorem TpV.fresh {W : World} (t : TpV w l q p n h h' L L' 0 vF vE vF' vE') (hW : Chg [q] w W)
    (ho : Own W q 147 [.pointer (some ⟨p, 0, none⟩), .int .i64 (h : Int), vF, vE, .int .i64 ((1 - h : Nat) : Int), .slice none 0 0, .slice none 0 0, .int .i64 ((0 : Nat) : Int)]) :
    TpV W l q p n h (1 - h) L [] 0 vF vE (.slice none 0 0) (.slice none 0 0) :=
  ⟨ho, t.fr.other hW (fun g hg _ => by simp at hg; subst hg; exact ⟨_, _, _, t.own, ne_tp_u8⟩), t.en.other hW (fun g hg _ => by simp at hg; subst hg; exact ⟨_, _, _, t.own, ne_tp_int⟩), Lst.nil _ _ _, Lst.nil _ _ _,
    fun g _ h => by simp [Value.ownBlock] at h, fun g _ h => by simp [Value.ownBlock] at h, t.memq, fun x hx => by
      rcases hx with hx | hx | hx | hx
      · exact t.memv x (.inl hx)
      · exact t.memv x (.inr (.inl hx))
      · simp [mem_bl, Value.ownBlock] at hx
      · simp [mem_bl, Value.ownBlock] at hx,
    t.half, by omega, by omega, t.ok, okL_nil, t.room, by simp [frs], fun e => by have := t.half; omega, fun e => by omega⟩
set_option maxHeartbeats 2000000 in
set_option maxRecDepth 100000 in
theorem replace_tape {g bb : Nat} {F : Nat → Sec} {m : Nat → Option Sec} (t : TpV w l q p n h h' L L' k vF vE vF' vE') (hd : Dsk w p g bb n F m) (a : Option Addr) (xs : List SB) (c B : Nat) (hr : RoL w B a xs) (hB : B ≤ w.heap.size) (hs : Sep l a xs) (hl : xs.length ≤ 1000000) :
    Calls Tryz.prog 123 #[.pointer (some ⟨q, 0, none⟩), .slice a xs.length c] w fun e w' => e = .returned (.int .i64 ((replE n k xs : Nat) : Int)) ∧ TpT w l q p n h (replH n k h h' xs) L (replL n k L' xs) k w' := by
  have hT : Tp w l q p n h h' L L' k := ⟨_, _, _, _, t⟩
  have HA := Lib.hid (areRecords_any w a xs c B hr (by omega))
  by_cases hok : allR xs
  · rw [decide_eq_true hok] at HA
    have HCM := Lib.hid (committing_any t)
    by_cases hk : 0 < k
    · have HE := Lib.hid (show replE n k xs = 131 by unfold replE; rw [if_neg (fun x => x hok), if_pos hk])
      have HH := Lib.hid (show replH n k h h' xs = h' by unfold replH; rw [HE.out]; rfl)
      have HL := Lib.hid (show replL n k L' xs = L' by unfold replL; rw [HE.out]; rfl)
      rw [HE.out, HH.out, HL.out]
      rw [decide_eq_true hk] at HCM
      clear t hk hr hs hok hd
      go_enter Tryz.func123, Tryz.ntmps123
      go_wp2_with (first
        | (go_at_call 181; refine HA.out.mono ?_; rintro e w' ⟨rfl, rfl⟩)
        | (go_at_call 111; refine HCM.out.mono ?_; rintro e w' ⟨rfl, rfl⟩)
        | fail)
      go_ret
      exact ⟨rfl, TpT.same hT (Chg.refl _ _)⟩
    · obtain rfl : k = 0 := by omega
      rw [decide_eq_false hk] at HCM
      have hq0 := t.own.cell 0
      simp at hq0
      have HHS := Lib.hid (halfSize_any w hq0 hd)
      have HFS := Lib.hid (framesSize_any w a xs c B hr hl hok)
      have hs1 : hsec n * 64 ≤ 100000 := by have := hd.top; unfold hsec; omega
      have hfl := frs_le (recs xs) hok.okL
      rw [recs_len] at hfl
      obtain ⟨s, HSZ⟩ : ∃ s, Hid (hsec n * 64 = s) := ⟨_, Lib.hid rfl⟩
      obtain ⟨N, HN⟩ : ∃ N, Hid ((frs (recs xs)).length = N) := ⟨_, Lib.hid rfl⟩
      obtain ⟨K, HK⟩ : ∃ K, Hid (xs.length = K) := ⟨_, Lib.hid rfl⟩
      rw [HN.out] at hfl
      rw [HN.out, HK.out] at HFS
      rw [HSZ.out] at HHS hs1
      rw [HK.out] at hl hfl HA ⊢
      by_cases hgt : s < N
      · have HE := Lib.hid (show replE n 0 xs = 61 by unfold replE; rw [if_neg (fun x => x hok), if_neg (by omega), if_pos (by rw [HSZ.out, HN.out]; exact hgt)])
        have HH := Lib.hid (show replH n 0 h h' xs = h' by unfold replH; rw [HE.out]; rfl)
        have HL := Lib.hid (show replL n 0 L' xs = L' by unfold replL; rw [HE.out]; rfl)
        rw [HE.out, HH.out, HL.out]
        have hd1 : decide (s < N) = true := by simpa using hgt
        clear t hk hr hs hok hd hgt hq0
        go_enter Tryz.func123, Tryz.ntmps123
        go_wp2_with (first
          | (go_at_call 181; refine HA.out.mono ?_; rintro e w' ⟨rfl, rfl⟩)
          | (go_at_call 111; refine HCM.out.mono ?_; rintro e w' ⟨rfl, rfl⟩)
          | (go_at_call 182; refine HFS.out.mono ?_; rintro e w' ⟨rfl, rfl⟩)
          | (go_at_call 78; refine HHS.out.mono ?_; rintro e w' ⟨rfl, rfl⟩)
          | fail)
        go_ret
        exact ⟨rfl, TpT.same hT (Chg.refl _ _)⟩
      · have HE := Lib.hid (show replE n 0 xs = 0 by unfold replE; rw [if_neg (fun x => x hok), if_neg (by omega), if_neg (by rw [HSZ.out, HN.out]; exact hgt)])
        have HH := Lib.hid (show replH n 0 h h' xs = 1 - h by unfold replH; rw [if_pos HE.out])
        have HL := Lib.hid (show replL n 0 L' xs = recs xs by unfold replL; rw [if_pos HE.out])
        rw [HE.out, HH.out, HL.out]
        have hd1 : decide (s < N) = false := by simpa using hgt
        obtain ⟨aF', cF', rfl⟩ := t.fr'.sl8
        obtain ⟨aE', cE', rfl⟩ := t.en'.slE
        have c1 := t.own.cell 1
        have c4 := t.own.cell 4
        have c5 := t.own.cell 5
        have c6 := t.own.cell 6
        have f4 := t.own.frozen 4
        have f5 := t.own.frozen 5
        have f6 := t.own.frozen 6
        simp at c1 c4 c5 c6
        have hh1 : h ≤ 1 := t.half
        have hh2 : (1 : Int) - (h : Int) = ((1 - h : Nat) : Int) := by omega
        have HT := Lib.hid t
        have HOK := Lib.hid hok
        have HR := Lib.hid (hr.mono hB)
        have HS := Lib.hid hs
        have HG := Lib.hid hgt
        clear t hk hr hs hok hd hgt hq0 hT
        go_enter Tryz.func123, Tryz.ntmps123
        go_wp2_with (first
          | (go_at_call 181; refine HA.out.mono ?_; rintro e w' ⟨rfl, rfl⟩)
          | (go_at_call 111; refine HCM.out.mono ?_; rintro e w' ⟨rfl, rfl⟩)
          | (go_at_call 182; refine HFS.out.mono ?_; rintro e w' ⟨rfl, rfl⟩)
          | (go_at_call 78; refine HHS.out.mono ?_; rintro e w' ⟨rfl, rfl⟩)
          | fail)
        obtain ⟨h2, HH2⟩ : ∃ h2, Hid (1 - h = h2) := ⟨_, Lib.hid rfl⟩
        have HT0 := Lib.hid (HT.out.fresh (W := ((w.setCell ⟨q, 4, none⟩ (.int .i64 ((1 - h : Nat) : Int))).setCell ⟨q, 5, none⟩ (.slice none 0 0)).setCell ⟨q, 6, none⟩ (.slice none 0 0)) ((((Chg.refl [q] w).setCell (by simp) _).setCell (by simp) _).setCell (by simp) _) (((HT.out.own.set 4 (.int .i64 ((1 - h : Nat) : Int))).set 5 (.slice none 0 0)).set 6 (.slice none 0 0)))
        have HC0 := Lib.hid (show Chg l w (((w.setCell ⟨q, 4, none⟩ (.int .i64 ((1 - h : Nat) : Int))).setCell ⟨q, 5, none⟩ (.slice none 0 0)).setCell ⟨q, 6, none⟩ (.slice none 0 0)) from (((Chg.refl l w).setCell (.inl HT.out.memq) _).setCell (.inl HT.out.memq) _).setCell (.inl HT.out.memq) _)
        rw [HH2.out] at hh2 HT0 HC0 ⊢
        have hhb : h2 ≤ 1 := by rw [← HH2.out]; omega
        have hKb : K ≤ 1000000 := hl
        clear c1 c4 c5 c6 f4 f5 f6
        go_loopw [36] (fun i wr => ∃ j : Nat, j ≤ K ∧ i = .int .i64 j ∧ Hid (∃ l', Tp wr l' q p n h h2 L (recs (xs.take j)) 0 ∧ (∀ x ∈ l', x ∈ l ∨ w.heap.size ≤ x) ∧ Chg l w wr)) (fun i _ => K - (intOf i).toNat)
        case atStart => exact ⟨0, Nat.zero_le _, rfl, Lib.hid ⟨l, ⟨_, _, _, _, HT0.out⟩, fun x hx => .inl hx, HC0.out⟩⟩
        case round =>
          obtain ⟨j, hj, rfl, HI⟩ := hrel
          by_cases hlt : j < K
          · obtain ⟨l', ⟨vF1, vE1, vF2, vE2, t1⟩, hl', hc'⟩ := HI.out
            have hjx : j < xs.length := by rw [HK.out]; exact hlt
            have hsep : Sep l a xs := HS.out
            have hR1 := HR.out.chgs hc' hsep
            obtain ⟨b0, off, rfl, hb0, hcc⟩ := hR1.at_ hjx
            have hcell := hcc j hjx
            unfold SB.val at hcell
            have hd : decide (j < K) = true := by simpa using hlt
            have hj1 : (j : Int) < (K : Int) := by omega
            have hmem := List.getElem_mem hjx
            have hT2 : recs (xs.take (j + 1)) = recs (xs.take j) ++ [(xs[j]).bs] := by rw [take_snoc xs j hjx, recs_snoc]
            have hokx := HOK.out _ hmem
            have helx := hR1.el _ hmem
            have hsx := hsep.2 _ hmem
            have hroom : (frs (recs (xs.take j))).length + 2 + (xs[j]).bs.length ≤ hsec n * 64 := by
              have h6 : (frs (recs (xs.take (j + 1)))).length ≤ (frs (recs xs)).length := by
                have := frs_take_le (recs xs) (j + 1)
                rw [show (recs xs).take (j + 1) = recs (xs.take (j + 1)) by simp [recs, List.map_take]] at this
                exact this
              rw [hT2, frs_snoc_len, HN.out] at h6
              have := HG.out
              have := HSZ.out
              omega
            generalize xs[j] = y at *
            have hlow : ∀ x, x ∈ l' → x < w.heap.size → x ∈ l := fun x hx hlt2 => by
              rcases hl' x hx with h7 | h7
              · exact h7
              · omega
            have hle1 : (frs (recs (xs.take j))).length ≤ 1000000 := by have := t1.room'; have := HSZ.out; omega
            have hya : ∀ x, y.a = some x → x.block ∉ bl vF2 := fun x hx hm => by
              have h7 := t1.memv _ (.inr (.inr (.inl hm)))
              rcases helx.1 with h8 | ⟨b8, o8, h9, h10, _⟩
              · have : y.bs = [] := by simpa [u8s] using h8
                have h11 := hokx.1
                rw [this] at h11
                simp at h11
              · rw [hx] at h9
                injection h9 with h9
                subst h9
                exact hsx (fun e => by have h11 := hokx.1; rw [e] at h11; simp at h11) _ hx (hlow _ h7 h10)
            obtain ⟨aF2, cF2, rfl⟩ := t1.fr'.sl8
            obtain ⟨aE2, cE2, rfl⟩ := t1.en'.slE
            have hW := with_any wr h2 aF2 aE2 (frs (recs (xs.take j))).length cF2 (recs (xs.take j)).length cE2 (recs (xs.take j)) y.a y.bs y.c w.heap.size t1.fr' t1.en' helx.1 hc'.size hya hokx t1.ok' hle1
            obtain ⟨NF, HNF⟩ : ∃ N, Hid ((frs (recs (xs.take j))).length = N) := ⟨_, Lib.hid rfl⟩
            obtain ⟨NL, HNL⟩ : ∃ N, Hid ((recs (xs.take j)).length = N) := ⟨_, Lib.hid rfl⟩
            rw [HNF.out, HNL.out] at hW t1
            have HW := Lib.hid hW
            have d4 := t1.own.cell 4
            have d5 := t1.own.cell 5
            have d6 := t1.own.cell 6
            simp at d4 d5 d6
            have HT1 := Lib.hid t1
            have HL1 := Lib.hid (And.intro hl' hc')
            have HO1 := Lib.hid (And.intro hokx hroom)
            have HT2 := Lib.hid hT2
            clear hR1 hcc hmem hT2 hokx helx hsx hroom hlow hle1 hya hW t1 hl' hc' hsep
            go_wp2_with fail
            refine HW.out.mono ?_
            rintro e w2 ⟨vF3, vE3, rfl, HKK⟩
            obtain ⟨aF3, cF3, rfl⟩ := HKK.out.fr.sl8
            obtain ⟨aE3, cE3, rfl⟩ := HKK.out.en.slE
            obtain ⟨N3, HN3⟩ : ∃ N, Hid ((frs (recs (xs.take j) ++ [y.bs])).length = N) := ⟨_, Lib.hid rfl⟩
            obtain ⟨M3, HM3⟩ : ∃ N, Hid ((recs (xs.take j) ++ [y.bs]).length = N) := ⟨_, Lib.hid rfl⟩
            rw [HN3.out, HM3.out] at HKK ⊢
            have hq2 := HT1.out.own.chg HKK.out.chg (fun hx => by
              rcases List.mem_append.1 hx with hx | hx
              · obtain ⟨c, hc⟩ := HT1.out.fr'.typ (mem_bl.1 hx)
                have := HT1.out.own
                unfold Own at this
                rw [hc] at this
                cases this
              · obtain ⟨c, hc⟩ := HT1.out.en'.typ (mem_bl.1 hx)
                have := HT1.out.own
                unfold Own at this
                rw [hc] at this
                cases this)
            have g4 := hq2.cell 4
            have g5 := hq2.cell 5
            have g6 := hq2.cell 6
            have f4 := hq2.frozen 4
            have f5 := hq2.frozen 5
            have f6 := hq2.frozen 6
            simp at g4 g5 g6
            have HQ2 := Lib.hid hq2
            clear hq2 d4 d5 d6
            go_wp2_with fail
            go_roundw
            case rel =>
              obtain ⟨r1, r2, r3⟩ := HT1.out.more HKK.out (((Chg.refl [q] w2).setCell (by simp) _).setCell (by simp) _ |>.setCell (by simp) _) (((HQ2.out.set 4 (.int .i64 (h2 : Int))).set 5 (.slice aF3 N3 cF3)).set 6 (.slice aE3 M3 cE3)) HO1.out.1 HO1.out.2
              have hsz := HL1.out.2.size
              refine ⟨j + 1, by omega, by go_num, Lib.hid ⟨_, ⟨_, _, _, _, by rw [HT2.out]; exact r1⟩, fun x hx => ?_, HL1.out.2.then r3 (fun x hx => HL1.out.1 x hx)⟩⟩
              rcases r2 x hx with h7 | h7
              · exact HL1.out.1 x h7
              · right; omega
            case measure => simp [intOf]; omega
          · have hjK : j = K := by omega
            have HX := Lib.hid (show xs.take j = xs by rw [hjK, ← HK.out, List.take_length])
            have hd : decide (j < K) = false := by simpa using hlt
            rw [HX.out] at HI
            clear hjK
            go_wp2_with fail
            go_ret
            exact ⟨rfl, by rw [HH2.out]; exact HI.out⟩
  · have HE := Lib.hid (show replE n k xs = 1 by unfold replE; rw [if_pos hok])
    have HH := Lib.hid (show replH n k h h' xs = h' by unfold replH; rw [HE.out]; rfl)
    have HL := Lib.hid (show replL n k L' xs = L' by unfold replL; rw [HE.out]; rfl)
    rw [HE.out, HH.out, HL.out]
    rw [decide_eq_false hok] at HA
    clear t hr hs hok hd
    go_enter Tryz.func123, Tryz.ntmps123
    go_wp2_with (first
      | (go_at_call 181; refine HA.out.mono ?_; rintro e w' ⟨rfl, rfl⟩)
      | fail)
    go_ret
    exact ⟨rfl, TpT.same hT (Chg.refl _ _)⟩
end
end Go.Proofs.YtmpajlpemabniaaGreat
