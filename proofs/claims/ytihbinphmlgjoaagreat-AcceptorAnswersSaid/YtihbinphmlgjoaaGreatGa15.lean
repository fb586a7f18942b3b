/-
  Contracts of package tape's Read and Append. No claim of their own.
-/
import Derived.Test.YtihbinphmlgjoaaGreatGa14
namespace Go.Proofs.YtihbinphmlgjoaaGreat
open Go.RowKit Go.Deep Go.Shelf
set_option linter.unusedVariables false
set_option linter.unusedSimpArgs false

theorem ne_tp_u8 : 139 ≠ 5 := by decide
theorem ne_tp_int : 139 ≠ 3 := by decide
/-- slices.Clone of a record -/
theorem clone_rec (w : World) (a : Option Addr) (r : Rec) (c B : Nat) (hro : Ro w B a (u8s r)) (h0 : 0 < r.length) (hl : r.length ≤ 1000000) :
    Calls Tryz.prog 66 #[.slice a r.length c] w fun e w' => ∃ v, e = .returned v ∧ Lst w' w.heap.size 5 v (u8s r) ∧ Below w.heap.size w w' := by
  obtain ⟨i, hi, hz⟩ := Option.map_eq_some_iff.1 infoU8
  simp only [Prod.mk.injEq] at hz
  obtain ⟨b, off, rfl, hb, hc⟩ := hro.at_ (by intro e; rw [show r = [] from by simpa [u8s] using e] at h0; simp at h0)
  have h := AnyE.slices_Clone cloneB i (.int .u8 0) 1 1 hi hz.1 hz.2.1 hz.2.2 rfl (by omega) (fun w => Tryz.sizeOf5 w) b off r.length c (u8s r) w (by simp) (by unfold maxLen; omega) (by omega) (fun j u hu => by
    have hj := (List.getElem?_eq_some_iff.1 hu).1
    rw [hc j hj]
    simp [List.getD, hu]) (u8s_one r)
  refine Calls.mono h fun e w' ⟨v', he, hown, hnil, hbel⟩ => ⟨v', he, ?_, hbel⟩
  unfold Lst
  rw [u8s_length]
  exact hown
theorem read_nilT (w : World) (i : Int) : Calls Tryz.prog 32 #[.pointer none, .int .i64 i] w fun e w' => e = .returned (.tuple #[.slice none 0 0, .int .i64 1]) ∧ w = w' := by
  go_enter Tryz.func32, Tryz.ntmps32
  go_wp2
  go_ret2
  exact ⟨rfl, rfl⟩
section
variable {w : World} {l : List Nat} {q p n h h' : Nat} {L L' : List Rec} {k : Nat} {vF vE vF' vE' : Value}
theorem read_noneT (t : TpV w l q p n h h' L L' k vF vE vF' vE') (i : Int) (hi : i < 0 ∨ (L.length : Int) ≤ i) : Calls Tryz.prog 32 #[.pointer (some ⟨q, 0, none⟩), .int .i64 i] w fun e w' => e = .returned (.tuple #[.slice none 0 0, .int .i64 62]) ∧ Chg [] w w' := by
  obtain ⟨aF, cF, rfl⟩ := t.fr.sl8
  obtain ⟨aE, cE, rfl⟩ := t.en.slE
  have c1 := t.own.cell 1
  have c2 := t.own.cell 2
  have c3 := t.own.cell 3
  simp at c1 c2 c3
  clear t
  by_cases h0 : i < 0
  · have e1 : decide (i < 0) = true := by simp; omega
    go_enter Tryz.func32, Tryz.ntmps32
    go_wp2
    go_ret2
    exact ⟨rfl, Chg.refl _ _⟩
  · have e1 : decide (i < 0) = false := by simp; omega
    have e2 : decide ((L.length : Int) ≤ i) = true := by simp; omega
    clear hi h0
    go_enter Tryz.func32, Tryz.ntmps32
    go_wp2_with (first | (go_at_call 65; refine (records_any _ h _ aE L.length cE).mono ?_; rintro e w' ⟨rfl, hc⟩) | fail)
    go_ret2
    exact ⟨rfl, hc⟩
theorem read_recT (t : TpV w l q p n h h' L L' k vF vE vF' vE') (hn : n ≤ 1024) (i : Nat) (hi : i < L.length) : Calls Tryz.prog 32 #[.pointer (some ⟨q, 0, none⟩), .int .i64 (i : Int)] w fun e w' => ∃ v, e = .returned (.tuple #[v, .int .i64 0]) ∧ Hid (Lst w' w.heap.size 5 v (u8s L[i])) ∧ Chg [] w w' := by
  have hle := t.len_le hn
  have hok := t.ok
  have hokr := hok _ (List.getElem_mem hi)
  obtain ⟨aF, cF, rfl⟩ := t.fr.sl8
  obtain ⟨aE, cE, rfl⟩ := t.en.slE
  have c1 := t.own.cell 1
  have c2 := t.own.cell 2
  have c3 := t.own.cell 3
  simp at c1 c2 c3
  have HRC := Lib.hid (fun W (hW : Chg [] w W) => record_any W h aF aE (frs L).length cF L.length cE L i (t.fr.kept0 hW) (t.en.kept0 hW) hi hok (by omega))
  obtain ⟨NF, HNF⟩ : ∃ N, Hid ((frs L).length = N) := ⟨_, Lib.hid rfl⟩
  obtain ⟨NL, HNL⟩ : ∃ N, Hid (L.length = N) := ⟨_, Lib.hid rfl⟩
  obtain ⟨r, HRR⟩ : ∃ r, Hid (L[i] = r) := ⟨_, Lib.hid rfl⟩
  rw [HNF.out, HNL.out, HRR.out] at HRC
  rw [HNF.out] at c2
  rw [HNL.out] at c3
  rw [HRR.out] at hokr ⊢
  have h1 : decide ((i : Int) < 0) = false := by simp
  have h2 : decide ((NL : Int) ≤ (i : Int)) = false := by rw [HNL.out] at hi; simp; omega
  have h3 : decide (NL ≤ i) = false := by rw [HNL.out] at hi; simp; omega
  have HO := Lib.hid hokr
  clear t hle hi hok hokr HRR
  go_enter Tryz.func32, Tryz.ntmps32
  go_wp2_with fail
  refine (records_any _ h _ aE NL cE).mono ?_
  rintro e w1 ⟨rfl, hc1⟩
  have d1 := hc1.cell c1 (by simp)
  have d2 := hc1.cell c2 (by simp)
  have d3 := hc1.cell c3 (by simp)
  have HC1 := Lib.hid hc1
  clear c1 c2 c3 hc1
  go_wp2_with fail
  refine (HRC.out _ HC1.out).mono ?_
  rintro e w2 ⟨a2, c2, rfl, hro2, hca, hcb, hc2⟩
  have HCL := Lib.hid (clone_rec w2 a2 r c2 _ hro2 (by have := HO.out.1; omega) (by have := HO.out.2; omega))
  have HC2 := Lib.hid (HC1.out.trans hc2)
  clear d1 d2 d3 hro2 hc2
  go_wp2_with fail
  refine HCL.out.mono ?_
  rintro e w3 ⟨v, rfl, hl, hb⟩
  have HL := Lib.hid (hl.base HC2.out.size)
  have HB := Lib.hid hb
  clear hl hb
  go_wp2_with fail
  go_ret2
  exact ⟨v, rfl, HL, HC2.out.of_below HB.out⟩
/-- a record is put behind those that will be -/
theorem TpV.more {w2 W : World} {vF2 vE2 : Value} {r : Rec} (t : TpV w l q p n h h' L L' k vF vE vF' vE') (K : WithK w w2 vF' vE' vF2 vE2 L' r) (hW : Chg [q] w2 W)
    (ho : Own W q 139 [.pointer (some ⟨p, 0, none⟩), .int .i64 (h : Int), vF, vE, .int .i64 (h' : Int), vF2, vE2, .int .i64 (k : Int)]) (hr : okR r) (hroom : (frs L').length + 2 + r.length ≤ hsec n * 64) :
    TpV W (l ++ bl vF2 ++ bl vE2) q p n h h' L (L' ++ [r]) k vF vE vF2 vE2 ∧ (∀ x ∈ l ++ bl vF2 ++ bl vE2, x ∈ l ∨ w.heap.size ≤ x) ∧ Chg l w W := by
  have hq2 : Own w2 q 139 _ := t.own.chg K.chg (fun hx => by
    rcases List.mem_append.1 hx with hx | hx
    · obtain ⟨c, hc⟩ := t.fr'.typ (mem_bl.1 hx)
      have := t.own
      unfold Own at this
      rw [hc] at this
      cases this
    · obtain ⟨c, hc⟩ := t.en'.typ (mem_bl.1 hx)
      have := t.own
      unfold Own at this
      rw [hc] at this
      cases this)
  have h8 : ∀ u zs, Lst w2 0 5 u zs → Lst W 0 5 u zs := fun u zs hu => hu.other hW (fun g hg _ => by simp at hg; subst hg; exact ⟨_, _, _, hq2, ne_tp_u8⟩)
  have hI : ∀ u zs, Lst w2 0 3 u zs → Lst W 0 3 u zs := fun u zs hu => hu.other hW (fun g hg _ => by simp at hg; subst hg; exact ⟨_, _, _, hq2, ne_tp_int⟩)
  have hlen : (frs (L' ++ [r])).length = (frs L').length + 2 + r.length := frs_snoc_len L' r
  have hb : ∀ x ∈ l ++ bl vF2 ++ bl vE2, x ∈ l ∨ w.heap.size ≤ x := fun x hx => by
    rcases List.mem_append.1 hx with hx | hx
    · rcases List.mem_append.1 hx with hx | hx
      · exact .inl hx
      · rcases K.sameF x hx with h1 | h1
        · exact .inl (t.memv x (.inr (.inr (.inl h1))))
        · exact .inr h1
    · rcases K.sameE x hx with h1 | h1
      · exact .inl (t.memv x (.inr (.inr (.inr h1))))
      · exact .inr h1
  refine ⟨⟨ho, h8 _ _ (K.keepF _ _ t.fr (fun g h1 h2 => by rw [u8s_length]; exact t.alF g h1 h2)), hI _ _ (K.keepE _ _ t.en (fun g h1 h2 => by rw [i64s_length, ens_len]; exact t.alE g h1 h2)), h8 _ _ K.fr, hI _ _ K.en, ?_, ?_, by simp [t.memq], ?_, t.half, t.half', t.step, t.ok, t.ok'.snoc hr, t.room, by omega, ?_, ?_⟩, hb, ?_⟩
  · intro g h1 h2
    rcases K.sameF g (mem_bl.2 h2) with h3 | h3
    · have := t.alF g h1 (mem_bl.1 h3); omega
    · have := (t.fr.lt g h1).2; omega
  · intro g h1 h2
    rw [List.length_append]
    rcases K.sameE g (mem_bl.2 h2) with h3 | h3
    · have := t.alE g h1 (mem_bl.1 h3); omega
    · have := (t.en.lt g h1).2; omega
  · rintro x (h1 | h1 | h1 | h1)
    · exact List.mem_append.2 (.inl (List.mem_append.2 (.inl (t.memv x (.inl h1)))))
    · exact List.mem_append.2 (.inl (List.mem_append.2 (.inl (t.memv x (.inr (.inl h1))))))
    · simp [h1]
    · simp [h1]
  · intro e
    obtain ⟨W2, hW2⟩ := t.pre e
    exact ⟨W2 ++ [r], by rw [hW2, List.append_assoc]⟩
  · intro hk
    rcases t.busy hk with h1 | h1
    · exact .inl h1
    · right; rw [List.length_append]; omega
  · have h1 : Chg l w w2 := K.chg.mono (fun x hx => .inl (by
      rcases List.mem_append.1 hx with hx | hx
      · exact t.memv x (.inr (.inr (.inl hx)))
      · exact t.memv x (.inr (.inr (.inr hx)))))
    exact h1.then hW (fun x hx => .inl (by simp at hx; subst hx; exact t.memq))
/-- what Append tells -/
def appE (n k h h' : Nat) (L L' : List Rec) (b : Rec) : Nat := if ¬ okR b then 1 else if 0 < k ∨ h ≠ h' then 131 else if roomN n h h' L L' < 2 + b.length then 61 else 0
def appL (n k h h' : Nat) (L L' : List Rec) (b : Rec) : List Rec := if appE n k h h' L L' b = 0 then L' ++ [b] else L'
/-- a call of a tape's method that changes it -/
def TpT (w : World) (l : List Nat) (q p n h h' : Nat) (L L' : List Rec) (k : Nat) (w' : World) : Prop := ∃ l', Tp w' l' q p n h h' L L' k ∧ (∀ x ∈ l', x ∈ l ∨ w.heap.size ≤ x) ∧ Chg l w w'
theorem TpT.same {w' : World} (t : Tp w l q p n h h' L L' k) (hc : Chg [] w w') : TpT w l q p n h h' L L' k w' := ⟨l, t.kept hc, fun x hx => .inl hx, hc.mono (by simp)⟩
theorem append_nilT (w : World) (a : Option Addr) (m c : Nat) : Calls Tryz.prog 46 #[.pointer none, .slice a m c] w fun e w' => e = .returned (.int .i64 1) ∧ w = w' := by
  go_enter Tryz.func46, Tryz.ntmps46
  go_wp2
  go_ret
  exact ⟨rfl, rfl⟩
set_option maxHeartbeats 1000000 in
set_option maxRecDepth 100000 in
theorem append_tape {g bb : Nat} {F : Nat → Sec} {m : Nat → Option Sec} (t : TpV w l q p n h h' L L' k vF vE vF' vE') (hd : Dsk w p g bb n F m) (a : Option Addr) (b : Rec) (c B : Nat) (hro : Ro w B a (u8s b)) (hB : B ≤ w.heap.size) (hsep : okR b → ∀ x, a = some x → x.block ∉ l) :
    Calls Tryz.prog 46 #[.pointer (some ⟨q, 0, none⟩), .slice a b.length c] w fun e w' => e = .returned (.int .i64 ((appE n k h h' L L' b : Nat) : Int)) ∧ TpT w l q p n h h' L (appL n k h h' L L' b) k w' := by
  have HT := Lib.hid t
  have HI := Lib.hid (isRecord_any w a b.length c)
  have hT : Tp w l q p n h h' L L' k := ⟨_, _, _, _, t⟩
  by_cases hr : okR b
  · have hrd : decide (1 ≤ b.length ∧ b.length ≤ 300) = true := decide_eq_true hr
    rw [hrd] at HI
    have HCM := Lib.hid (committing_any t)
    by_cases hk : 0 < k
    · have HE := Lib.hid (show appE n k h h' L L' b = 131 by unfold appE; rw [if_neg (fun x => x hr), if_pos (.inl hk)])
      have HL := Lib.hid (show appL n k h h' L L' b = L' by unfold appL; rw [HE.out]; rfl)
      rw [HE.out, HL.out]
      rw [decide_eq_true hk] at HCM
      clear t hk hr hrd hro hsep
      go_enter Tryz.func46, Tryz.ntmps46
      go_wp2_with (first
        | (go_at_call 86; refine HI.out.mono ?_; rintro e w' ⟨rfl, rfl⟩)
        | (go_at_call 87; refine HCM.out.mono ?_; rintro e w' ⟨rfl, rfl⟩)
        | fail)
      go_ret
      exact ⟨rfl, TpT.same hT (Chg.refl _ _)⟩
    · rw [decide_eq_false hk] at HCM
      have HRP := Lib.hid (replacing_any t)
      by_cases hh : h = h'
      · rw [decide_eq_false (show ¬ h ≠ h' from fun x => x hh)] at HRP
        have HRM := Lib.hid (fun nn => room_tape (t.kept ((Chg.refl [] w).drewN nn)) (hd.kept ((Chg.refl [] w).drewN nn)))
        have HFS := Lib.hid (fun W => frameSize_any W a b.length c (by have := hr.2; omega))
        have hrl : roomN n h h' L L' ≤ 100000 := by have := hd.top; unfold roomN hsec; omega
        obtain ⟨R, HR⟩ : ∃ R, Hid (roomN n h h' L L' = R) := ⟨_, Lib.hid rfl⟩
        obtain ⟨N, HN⟩ : ∃ N, Hid (b.length = N) := ⟨_, Lib.hid rfl⟩
        rw [HR.out] at HRM hrl
        have hb3 : N ≤ 300 := by rw [← HN.out]; exact hr.2
        obtain ⟨M, HM⟩ : ∃ M, Hid (2 + b.length = M) := ⟨_, Lib.hid rfl⟩
        rw [HM.out] at HFS
        have hM3 : M ≤ 400 := by rw [← HM.out]; have := hr.2; omega
        rw [HN.out] at HI HFS ⊢
        by_cases hgt : R < M
        · have HE := Lib.hid (show appE n k h h' L L' b = 61 by unfold appE; rw [if_neg (fun x => x hr), if_neg (by omega), if_pos (by rw [HR.out, HM.out]; exact hgt)])
          have HL := Lib.hid (show appL n k h h' L L' b = L' by unfold appL; rw [HE.out]; rfl)
          rw [HE.out, HL.out]
          have hd1 : decide (R < M) = true := by simpa using hgt
          clear t hk hr hrd hro hsep hh hgt hd
          go_enter Tryz.func46, Tryz.ntmps46
          go_wp2_with (first
            | (go_at_call 86; refine HI.out.mono ?_; rintro e w' ⟨rfl, rfl⟩)
            | (go_at_call 87; refine HCM.out.mono ?_; rintro e w' ⟨rfl, rfl⟩)
            | (go_at_call 88; refine HRP.out.mono ?_; rintro e w' ⟨rfl, nn, rfl⟩)
            | (go_at_call 89; refine (HFS.out _).mono ?_; rintro e w' ⟨rfl, rfl⟩)
            | (go_at_call 90; refine (HRM.out _).mono ?_; rintro e w' ⟨rfl, n2, rfl⟩)
            | fail)
          go_ret
          exact ⟨rfl, TpT.same hT ((Chg.refl [] w).drewN _)⟩
        · have HE := Lib.hid (show appE n k h h' L L' b = 0 by unfold appE; rw [if_neg (fun x => x hr), if_neg (by omega), if_neg (by rw [HR.out, HM.out]; exact hgt)])
          have HL := Lib.hid (show appL n k h h' L L' b = L' ++ [b] by unfold appL; rw [if_pos HE.out])
          rw [HE.out, HL.out]
          have hd1 : decide (R < M) = false := by simpa using hgt
          have HG := Lib.hid (show (frs L').length + 2 + b.length ≤ hsec n * 64 by
            have h1 := HR.out
            unfold roomN at h1
            rw [if_pos hh] at h1
            have h2 := HM.out
            have h3 := t.room'
            omega)
          have HOK := Lib.hid hr
          have hle := t.len_le hd.top
          obtain ⟨aF', cF', rfl⟩ := t.fr'.sl8
          obtain ⟨aE', cE', rfl⟩ := t.en'.slE
          have HW := Lib.hid (fun W (hW : Chg [] w W) => with_any W h' aF' aE' (frs L').length cF' L'.length cE' L' a b c B (t.fr'.kept0 hW) (t.en'.kept0 hW) (hro.chgs hW (fun x _ => by simp)) (Nat.le_trans hB hW.size) (fun x hx hm => hsep hr x hx (t.memv _ (.inr (.inr (.inl hm))))) hr t.ok' (by omega))
          obtain ⟨NF, HNF⟩ : ∃ N, Hid ((frs L').length = N) := ⟨_, Lib.hid rfl⟩
          obtain ⟨NL, HNL⟩ : ∃ N, Hid (L'.length = N) := ⟨_, Lib.hid rfl⟩
          rw [HNF.out, HNL.out] at HW HT
          rw [HN.out] at HW
          have c4 := HT.out.own.cell 4
          have c5 := HT.out.own.cell 5
          have c6 := HT.out.own.cell 6
          simp at c4 c5 c6
          clear t hk hr hrd hro hsep hh hgt hle hT
          go_enter Tryz.func46, Tryz.ntmps46
          go_wp2_with (first
            | (go_at_call 86; refine HI.out.mono ?_; rintro e w' ⟨rfl, rfl⟩)
            | (go_at_call 87; refine HCM.out.mono ?_; rintro e w' ⟨rfl, rfl⟩)
            | (go_at_call 88; refine HRP.out.mono ?_; rintro e w' ⟨rfl, nn, rfl⟩)
            | (go_at_call 89; refine (HFS.out _).mono ?_; rintro e w' ⟨rfl, rfl⟩)
            | (go_at_call 90; refine (HRM.out _).mono ?_; rintro e w' ⟨rfl, n2, rfl⟩)
            | fail)
          refine (HW.out _ ((Chg.refl [] w).drewN _)).mono ?_
          rintro e w2 ⟨vF2, vE2, rfl, HK⟩
          obtain ⟨aF2, cF2, rfl⟩ := HK.out.fr.sl8
          obtain ⟨aE2, cE2, rfl⟩ := HK.out.en.slE
          obtain ⟨N2, HN2⟩ : ∃ N, Hid ((frs (L' ++ [b])).length = N) := ⟨_, Lib.hid rfl⟩
          obtain ⟨M2, HM2⟩ : ∃ N, Hid ((L' ++ [b]).length = N) := ⟨_, Lib.hid rfl⟩
          rw [HN2.out, HM2.out] at HK ⊢
          have ht2 := HT.out.kept ((Chg.refl [] w).drewN (nn + n2))
          have hq2 := ht2.own.chg HK.out.chg (fun hx => by
            rcases List.mem_append.1 hx with hx | hx
            · obtain ⟨c, hc⟩ := ht2.fr'.typ (mem_bl.1 hx)
              have := ht2.own
              unfold Own at this
              rw [hc] at this
              cases this
            · obtain ⟨c, hc⟩ := ht2.en'.typ (mem_bl.1 hx)
              have := ht2.own
              unfold Own at this
              rw [hc] at this
              cases this)
          have d4 := hq2.cell 4
          have d5 := hq2.cell 5
          have d6 := hq2.cell 6
          have f4 := hq2.frozen 4
          have f5 := hq2.frozen 5
          have f6 := hq2.frozen 6
          simp at d4 d5 d6
          have HQ2 := Lib.hid hq2
          have HT2 := Lib.hid ht2
          clear hq2 ht2 c4 c5 c6
          go_wp2_with fail
          go_ret
          obtain ⟨r1, r2, r3⟩ := HT2.out.more HK.out (((Chg.refl [q] w2).setCell (by simp) _).setCell (by simp) _ |>.setCell (by simp) _) (((HQ2.out.set 4 (.int .i64 (h' : Int))).set 5 (.slice aF2 N2 cF2)).set 6 (.slice aE2 M2 cE2)) HOK.out HG.out
          exact ⟨rfl, _, ⟨_, _, _, _, r1⟩, r2, (((Chg.refl [] w).drewN _).mono (by simp)).trans r3⟩
      · have HE := Lib.hid (show appE n k h h' L L' b = 131 by unfold appE; rw [if_neg (fun x => x hr), if_pos (.inr hh)])
        have HL := Lib.hid (show appL n k h h' L L' b = L' by unfold appL; rw [HE.out]; rfl)
        rw [HE.out, HL.out]
        rw [decide_eq_true (show h ≠ h' from hh)] at HRP
        clear t hk hr hrd hro hsep hh
        go_enter Tryz.func46, Tryz.ntmps46
        go_wp2_with (first
          | (go_at_call 86; refine HI.out.mono ?_; rintro e w' ⟨rfl, rfl⟩)
          | (go_at_call 87; refine HCM.out.mono ?_; rintro e w' ⟨rfl, rfl⟩)
          | (go_at_call 88; refine HRP.out.mono ?_; rintro e w' ⟨rfl, nn, rfl⟩)
          | fail)
        go_ret
        exact ⟨rfl, TpT.same hT ((Chg.refl [] w).drewN _)⟩
  · have HE := Lib.hid (show appE n k h h' L L' b = 1 by unfold appE; rw [if_pos hr])
    have HL := Lib.hid (show appL n k h h' L L' b = L' by unfold appL; rw [HE.out]; rfl)
    rw [HE.out, HL.out]
    rw [decide_eq_false (show ¬ (1 ≤ b.length ∧ b.length ≤ 300) from hr)] at HI
    clear t hr hro hsep
    go_enter Tryz.func46, Tryz.ntmps46
    go_wp2_with (first
      | (go_at_call 86; refine HI.out.mono ?_; rintro e w' ⟨rfl, rfl⟩)
      | fail)
    go_ret
    exact ⟨rfl, TpT.same hT (Chg.refl _ _)⟩
end
end Go.Proofs.YtihbinphmlgjoaaGreat
namespace Go.Proofs.YtihbinphmlgjoaaGreat
open Go.RowKit Go.Deep Go.Shelf
set_option linter.unusedVariables false
set_option linter.unusedSimpArgs false

/-- a slice of bytes: where it lies, what it reads as, its capacity -/
structure SB where
  a : Option Addr
  bs : Rec
  c : Nat
def SB.val (x : SB) : Value := .slice x.a x.bs.length x.c
/-- a slice of slices of bytes -/
structure RoL (w : World) (B : Nat) (a : Option Addr) (xs : List SB) : Prop where
  row : Ro w B a (xs.map SB.val)
  el : ∀ x ∈ xs, Ro w B x.a (u8s x.bs) ∧ x.bs.length ≤ 140737488355328
/-- none of its blocks is in l -/
def Sep (l : List Nat) (a : Option Addr) (xs : List SB) : Prop := (xs ≠ [] → ∀ x, a = some x → x.block ∉ l) ∧ ∀ y ∈ xs, y.bs ≠ [] → ∀ x, y.a = some x → x.block ∉ l
theorem Ro.chgs2 {l : List Nat} {w w' : World} {B : Nat} {a : Option Addr} {vs : List Value} (h : Ro w B a vs) (hc : Chg l w w') (hl : vs ≠ [] → ∀ x, a = some x → x.block ∉ l) : Ro w' B a vs := by
  by_cases h0 : vs = []
  · exact .inl h0
  · exact h.chgs hc (hl h0)
theorem RoL.chgs {l : List Nat} {w w' : World} {B : Nat} {a : Option Addr} {xs : List SB} (h : RoL w B a xs) (hc : Chg l w w') (hs : Sep l a xs) : RoL w' B a xs :=
  ⟨h.row.chgs2 hc (fun h0 => hs.1 (fun e => h0 (by rw [e]; rfl))), fun x hx => ⟨(h.el x hx).1.chgs2 hc (fun h0 => hs.2 x hx (fun e => h0 (by rw [e]; rfl))), (h.el x hx).2⟩⟩
theorem RoL.kept {w w' : World} {B : Nat} {a : Option Addr} {xs : List SB} (h : RoL w B a xs) (hc : Chg [] w w') : RoL w' B a xs := h.chgs hc ⟨fun _ _ _ => by simp, fun _ _ _ _ _ => by simp⟩
theorem RoL.mono {w : World} {B B' : Nat} {a : Option Addr} {xs : List SB} (h : RoL w B a xs) (hB : B ≤ B') : RoL w B' a xs := ⟨h.row.mono hB, fun x hx => ⟨(h.el x hx).1.mono hB, (h.el x hx).2⟩⟩
theorem RoL.at_ {w : World} {B : Nat} {a : Option Addr} {xs : List SB} (h : RoL w B a xs) {k : Nat} (hk : k < xs.length) : ∃ b off, a = some ⟨b, off, none⟩ ∧ b < B ∧ ∀ i (hi : i < xs.length), w.cell? ⟨b, off + i, none⟩ = some (xs[i]).val := by
  obtain ⟨b, off, h1, h2, h3⟩ := h.row.at_ (by intro e; have := congrArg List.length e; simp only [List.length_map, List.length_nil] at this; omega)
  refine ⟨b, off, h1, h2, fun i hi => ?_⟩
  rw [h3 i (by simpa using hi)]
  simp [List.getD, hi]
theorem anyRec (w : World) (a : Option Addr) (n c : Nat) : Calls Tryz.prog 171 #[.slice a n c] w fun e w' => e = .returned (.bool (!decide (1 ≤ n ∧ n ≤ 300))) ∧ w = w' := by
  have HI := Lib.hid (isRecord_any w a n c)
  generalize decide (1 ≤ n ∧ n ≤ 300) = t at HI ⊢
  go_enter Tryz.func171, Tryz.ntmps171
  go_wp2_with (first | (go_at_call 86; refine HI.out.mono ?_; rintro e w' ⟨rfl, rfl⟩) | fail)
  go_ret
  exact ⟨rfl, rfl⟩
def allR (xs : List SB) : Prop := ∀ x ∈ xs, okR x.bs
instance (xs : List SB) : Decidable (allR xs) := by unfold allR; infer_instance
set_option maxRecDepth 100000 in
theorem index_any (w : World) (a : Option Addr) (xs : List SB) (c B : Nat) (h : RoL w B a xs) (hl : xs.length ≤ 140737488355328) :
    Calls Tryz.prog 192 #[.slice a xs.length c, .func (.func 171) #[] #[]] w fun e w' => ∃ r : Int, e = .returned (.int .i64 r) ∧ Hid (decide (0 ≤ r) = !decide (allR xs)) ∧ w = w' := by
  obtain ⟨n, HN⟩ : ∃ n, Hid (xs.length = n) := ⟨_, Lib.hid rfl⟩
  rw [HN.out] at hl ⊢
  have HR := Lib.hid h
  clear h
  go_enter Tryz.func192, Tryz.ntmps192
  go_wp2
  go_loop [8] (fun i => ∃ k : Nat, k ≤ n ∧ i = .int .i64 k ∧ Hid (∀ x ∈ xs.take k, okR x.bs)) (fun i => n - (intOf i).toNat)
  case atStart => exact ⟨0, Nat.zero_le _, rfl, Lib.hid (by simp)⟩
  case round =>
    obtain ⟨k, hk, rfl, HP⟩ := hrel
    by_cases hlt : k < n
    · have hkx : k < xs.length := by rw [HN.out]; exact hlt
      obtain ⟨b, off, rfl, hb, hc⟩ := HR.out.at_ hkx
      have hcell := hc k hkx
      unfold SB.val at hcell
      have hd : decide (k < n) = true := by simpa using hlt
      have hk1 : (k : Int) < (n : Int) := by omega
      have HX := Lib.hid (show xs[k] ∈ xs from List.getElem_mem hkx)
      have HT := Lib.hid (show xs.take (k + 1) = xs.take k ++ [xs[k]] from take_snoc xs k hkx)
      generalize xs[k] = x at *
      by_cases hok : okR x.bs
      · have HA := Lib.hid (anyRec w x.a x.bs.length x.c)
        rw [decide_eq_true (show 1 ≤ x.bs.length ∧ x.bs.length ≤ 300 from hok)] at HA
        have HOK := Lib.hid hok
        clear hok hc
        go_wp2_with (first | (go_at_call 171; refine HA.out.mono ?_; rintro e w' ⟨rfl, rfl⟩) | fail)
        go_round
        case rel => exact ⟨k + 1, by omega, by go_num, Lib.hid (by
          rw [HT.out]
          intro y hy
          rcases List.mem_append.1 hy with hy | hy
          · exact HP.out y hy
          · simp at hy; subst hy; exact HOK.out)⟩
        case measure => simp [intOf]; omega
      · have HA := Lib.hid (anyRec w x.a x.bs.length x.c)
        rw [decide_eq_false (show ¬ (1 ≤ x.bs.length ∧ x.bs.length ≤ 300) from hok)] at HA
        have HOK := Lib.hid (show decide (0 ≤ (k : Int)) = !decide (allR xs) by
          rw [decide_eq_false (fun h2 : allR xs => hok (h2 x HX.out)), decide_eq_true (by omega)]
          rfl)
        clear hok hc
        go_wp2_with (first | (go_at_call 171; refine HA.out.mono ?_; rintro e w' ⟨rfl, rfl⟩) | fail)
        go_ret
        exact ⟨_, rfl, HOK, rfl⟩
    · have hkn : k = n := by omega
      have HK := Lib.hid (show decide (0 ≤ (-1 : Int)) = !decide (allR xs) by
        have h2 : allR xs := by
          have := HP.out
          rw [hkn, ← HN.out, List.take_length] at this
          exact this
        rw [decide_eq_true h2]
        rfl)
      have hd : decide (k < n) = false := by simpa using hlt
      clear hkn
      go_wp2
      go_ret
      exact ⟨_, rfl, HK, rfl⟩
theorem areRecords_any (w : World) (a : Option Addr) (xs : List SB) (c B : Nat) (h : RoL w B a xs) (hl : xs.length ≤ 140737488355328) :
    Calls Tryz.prog 141 #[.slice a xs.length c] w fun e w' => e = .returned (.bool (decide (allR xs))) ∧ w = w' := by
  have HX := Lib.hid (index_any w a xs c B h hl)
  have HC : Calls Tryz.prog 170 #[.slice a xs.length c, .func (.func 171) #[] #[]] w fun e w' => e = .returned (.bool (!decide (allR xs))) ∧ w = w' := by
    generalize (!decide (allR xs)) = t at HX ⊢
    clear h
    go_enter Tryz.func170, Tryz.ntmps170
    go_wp2_with (first | (go_at_call 192; refine HX.out.mono ?_; rintro e w' ⟨r, rfl, hr, rfl⟩) | fail)
    go_ret
    exact ⟨by rw [← hr.out]; rfl, rfl⟩
  have HC2 := Lib.hid HC
  clear h HC HX
  generalize decide (allR xs) = t at HC2 ⊢
  go_enter Tryz.func141, Tryz.ntmps141
  go_wp2_with (first | (go_at_call 170; refine HC2.out.mono ?_; rintro e w' ⟨rfl, rfl⟩) | fail)
  go_ret
  exact ⟨ret_bool (by simp), rfl⟩
/-- the records that a slice of slices reads as -/
def recs (xs : List SB) : List Rec := xs.map (·.bs)
@[simp] theorem recs_len (xs : List SB) : (recs xs).length = xs.length := by simp [recs]
theorem recs_snoc (xs : List SB) (x : SB) : recs (xs ++ [x]) = recs xs ++ [x.bs] := by simp [recs]
theorem frs_le (L : List Rec) (h : okL L) : (frs L).length ≤ 302 * L.length := by
  induction L with
  | nil => simp [frs]
  | cons r L ih =>
    have h1 := h r (by simp)
    have h2 := ih (fun x hx => h x (by simp [hx]))
    unfold okR at h1
    simp only [frs, List.length_append, frame_len, List.length_cons]
    omega
theorem allR.okL {xs : List SB} (h : allR xs) : okL (recs xs) := fun r hr => by
  obtain ⟨x, hx, rfl⟩ := List.mem_map.1 hr
  exact h x hx
set_option maxRecDepth 100000 in
theorem framesSize_any (w : World) (a : Option Addr) (xs : List SB) (c B : Nat) (h : RoL w B a xs) (hl : xs.length ≤ 1000000) (hok : allR xs) :
    Calls Tryz.prog 142 #[.slice a xs.length c] w fun e w' => e = .returned (.int .i64 (((frs (recs xs)).length : Nat) : Int)) ∧ w = w' := by
  obtain ⟨n, HN⟩ : ∃ n, Hid (xs.length = n) := ⟨_, Lib.hid rfl⟩
  rw [HN.out] at hl ⊢
  have HR := Lib.hid h
  have HOK := Lib.hid hok
  clear h hok
  go_enter Tryz.func142, Tryz.ntmps142
  go_wp2
  go_loop [3, 8] (fun s i => ∃ k : Nat, k ≤ n ∧ i = .int .i64 k ∧ s = .int .i64 (((frs (recs (xs.take k))).length : Nat) : Int)) (fun _ i => n - (intOf i).toNat)
  case atStart => exact ⟨0, Nat.zero_le _, rfl, rfl⟩
  case round =>
    obtain ⟨k, hk, rfl, rfl⟩ := hrel
    by_cases hlt : k < n
    · have hkx : k < xs.length := by rw [HN.out]; exact hlt
      obtain ⟨b, off, rfl, hb, hc⟩ := HR.out.at_ hkx
      have hcell := hc k hkx
      unfold SB.val at hcell
      have hd : decide (k < n) = true := by simpa using hlt
      have hk1 : (k : Int) < (n : Int) := by omega
      have hm := List.getElem_mem hkx
      have hr := HOK.out _ hm
      have HT := Lib.hid (show (frs (recs (xs.take (k + 1)))).length = (frs (recs (xs.take k))).length + 2 + (xs[k]).bs.length by rw [take_snoc xs k hkx, recs_snoc, frs_snoc_len])
      have hle : (frs (recs (xs.take k))).length ≤ 302 * 1000000 := by
        have h1 := frs_le (recs (xs.take k)) (fun r hr => by
          obtain ⟨y, hy, rfl⟩ := List.mem_map.1 hr
          exact HOK.out y (List.mem_of_mem_take hy))
        have h2 : (recs (xs.take k)).length ≤ 1000000 := by rw [recs_len, List.length_take]; omega
        omega
      have hr3 := hr.2
      generalize xs[k] = x at *
      obtain ⟨N, HNN⟩ : ∃ N, Hid (x.bs.length = N) := ⟨_, Lib.hid rfl⟩
      obtain ⟨M, HM⟩ : ∃ N, Hid ((frs (recs (xs.take k))).length = N) := ⟨_, Lib.hid rfl⟩
      rw [HNN.out] at hr3 hcell
      rw [HM.out] at hle ⊢
      have HF := Lib.hid (frameSize_any w x.a N x.c (by omega))
      clear hm hr hc
      go_wp2_with (first | (go_at_call 89; refine HF.out.mono ?_; rintro e w' ⟨rfl, rfl⟩) | fail)
      go_round
      case rel => exact ⟨k + 1, by omega, by go_num, by
        have h1 := HT.out
        have h2 := HM.out
        have h3 := HNN.out
        congr 1
        omega⟩
      case measure => simp [intOf]; omega
    · have hkn : k = n := by omega
      have HK := Lib.hid (show xs.take k = xs by rw [hkn, ← HN.out, List.take_length])
      have hd : decide (k < n) = false := by simpa using hlt
      clear hkn
      rw [HK.out]
      go_wp2
      go_ret
      exact ⟨rfl, rfl⟩
end Go.Proofs.YtihbinphmlgjoaaGreat
namespace Go.Proofs.YtihbinphmlgjoaaGreat
open Go.RowKit Go.Deep Go.Shelf
set_option linter.unusedVariables false
set_option linter.unusedSimpArgs false

theorem replace_nilT (w : World) (a : Option Addr) (m c : Nat) : Calls Tryz.prog 98 #[.pointer none, .slice a m c] w fun e w' => e = .returned (.int .i64 1) ∧ w = w' := by
  go_enter Tryz.func98, Tryz.ntmps98
  go_wp2
  go_ret
  exact ⟨rfl, rfl⟩
/-- what Replace tells -/
def replE (n k : Nat) (xs : List SB) : Nat := if ¬ allR xs then 1 else if 0 < k then 131 else if hsec n * 64 < (frs (recs xs)).length then 61 else 0
def replH (n k h h' : Nat) (xs : List SB) : Nat := if replE n k xs = 0 then 1 - h else h'
def replL (n k : Nat) (L' : List Rec) (xs : List SB) : List Rec := if replE n k xs = 0 then recs xs else L'
section
variable {w : World} {l : List Nat} {q p n h h' : Nat} {L L' : List Rec} {k : Nat} {vF vE vF' vE' : Value}
/-- new records: none as yet -/
theorem TpV.fresh {W : World} (t : TpV w l q p n h h' L L' 0 vF vE vF' vE') (hW : Chg [q] w W)
    (ho : Own W q 139 [.pointer (some ⟨p, 0, none⟩), .int .i64 (h : Int), vF, vE, .int .i64 ((1 - h : Nat) : Int), .slice none 0 0, .slice none 0 0, .int .i64 ((0 : Nat) : Int)]) :
    TpV W l q p n h (1 - h) L [] 0 vF vE (.slice none 0 0) (.slice none 0 0) :=
  ⟨ho, t.fr.other hW (fun g hg _ => by simp at hg; subst hg; exact ⟨_, _, _, t.own, ne_tp_u8⟩), t.en.other hW (fun g hg _ => by simp at hg; subst hg; exact ⟨_, _, _, t.own, ne_tp_int⟩), Lst.nil _ _ _, Lst.nil _ _ _,
    fun g _ h => by simp [Value.ownBlock] at h, fun g _ h => by simp [Value.ownBlock] at h, t.memq, fun x hx => by
      rcases hx with hx | hx | hx | hx
      · exact t.memv x (.inl hx)
      · exact t.memv x (.inr (.inl hx))
      · simp [mem_bl, Value.ownBlock] at hx
      · simp [mem_bl, Value.ownBlock] at hx,
    t.half, by omega, by omega, t.ok, okL_nil, t.room, by simp [frs], fun e => by have := t.half; omega, fun e => by omega⟩
set_option maxHeartbeats 2000000 in
set_option maxRecDepth 100000 in
theorem replace_tape {g bb : Nat} {F : Nat → Sec} {m : Nat → Option Sec} (t : TpV w l q p n h h' L L' k vF vE vF' vE') (hd : Dsk w p g bb n F m) (a : Option Addr) (xs : List SB) (c B : Nat) (hr : RoL w B a xs) (hB : B ≤ w.heap.size) (hs : Sep l a xs) (hl : xs.length ≤ 1000000) :
    Calls Tryz.prog 98 #[.pointer (some ⟨q, 0, none⟩), .slice a xs.length c] w fun e w' => e = .returned (.int .i64 ((replE n k xs : Nat) : Int)) ∧ TpT w l q p n h (replH n k h h' xs) L (replL n k L' xs) k w' := by
  have hT : Tp w l q p n h h' L L' k := ⟨_, _, _, _, t⟩
  have HA := Lib.hid (areRecords_any w a xs c B hr (by omega))
  by_cases hok : allR xs
  · rw [decide_eq_true hok] at HA
    have HCM := Lib.hid (committing_any t)
    by_cases hk : 0 < k
    · have HE := Lib.hid (show replE n k xs = 131 by unfold replE; rw [if_neg (fun x => x hok), if_pos hk])
      have HH := Lib.hid (show replH n k h h' xs = h' by unfold replH; rw [HE.out]; rfl)
      have HL := Lib.hid (show replL n k L' xs = L' by unfold replL; rw [HE.out]; rfl)
      rw [HE.out, HH.out, HL.out]
      rw [decide_eq_true hk] at HCM
      clear t hk hr hs hok hd
      go_enter Tryz.func98, Tryz.ntmps98
      go_wp2_with (first
        | (go_at_call 141; refine HA.out.mono ?_; rintro e w' ⟨rfl, rfl⟩)
        | (go_at_call 87; refine HCM.out.mono ?_; rintro e w' ⟨rfl, rfl⟩)
        | fail)
      go_ret
      exact ⟨rfl, TpT.same hT (Chg.refl _ _)⟩
    · obtain rfl : k = 0 := by omega
      rw [decide_eq_false hk] at HCM
      have hq0 := t.own.cell 0
      simp at hq0
      have HHS := Lib.hid (halfSize_any w hq0 hd)
      have HFS := Lib.hid (framesSize_any w a xs c B hr hl hok)
      have hs1 : hsec n * 64 ≤ 100000 := by have := hd.top; unfold hsec; omega
      have hfl := frs_le (recs xs) hok.okL
      rw [recs_len] at hfl
      obtain ⟨s, HSZ⟩ : ∃ s, Hid (hsec n * 64 = s) := ⟨_, Lib.hid rfl⟩
      obtain ⟨N, HN⟩ : ∃ N, Hid ((frs (recs xs)).length = N) := ⟨_, Lib.hid rfl⟩
      obtain ⟨K, HK⟩ : ∃ K, Hid (xs.length = K) := ⟨_, Lib.hid rfl⟩
      rw [HN.out] at hfl
      rw [HN.out, HK.out] at HFS
      rw [HSZ.out] at HHS hs1
      rw [HK.out] at hl hfl HA ⊢
      by_cases hgt : s < N
      · have HE := Lib.hid (show replE n 0 xs = 61 by unfold replE; rw [if_neg (fun x => x hok), if_neg (by omega), if_pos (by rw [HSZ.out, HN.out]; exact hgt)])
        have HH := Lib.hid (show replH n 0 h h' xs = h' by unfold replH; rw [HE.out]; rfl)
        have HL := Lib.hid (show replL n 0 L' xs = L' by unfold replL; rw [HE.out]; rfl)
        rw [HE.out, HH.out, HL.out]
        have hd1 : decide (s < N) = true := by simpa using hgt
        clear t hk hr hs hok hd hgt hq0
        go_enter Tryz.func98, Tryz.ntmps98
        go_wp2_with (first
          | (go_at_call 141; refine HA.out.mono ?_; rintro e w' ⟨rfl, rfl⟩)
          | (go_at_call 87; refine HCM.out.mono ?_; rintro e w' ⟨rfl, rfl⟩)
          | (go_at_call 142; refine HFS.out.mono ?_; rintro e w' ⟨rfl, rfl⟩)
          | (go_at_call 61; refine HHS.out.mono ?_; rintro e w' ⟨rfl, rfl⟩)
          | fail)
        go_ret
        exact ⟨rfl, TpT.same hT (Chg.refl _ _)⟩
      · have HE := Lib.hid (show replE n 0 xs = 0 by unfold replE; rw [if_neg (fun x => x hok), if_neg (by omega), if_neg (by rw [HSZ.out, HN.out]; exact hgt)])
        have HH := Lib.hid (show replH n 0 h h' xs = 1 - h by unfold replH; rw [if_pos HE.out])
        have HL := Lib.hid (show replL n 0 L' xs = recs xs by unfold replL; rw [if_pos HE.out])
        rw [HE.out, HH.out, HL.out]
        have hd1 : decide (s < N) = false := by simpa using hgt
        obtain ⟨aF', cF', rfl⟩ := t.fr'.sl8
        obtain ⟨aE', cE', rfl⟩ := t.en'.slE
        have c1 := t.own.cell 1
        have c4 := t.own.cell 4
        have c5 := t.own.cell 5
        have c6 := t.own.cell 6
        have f4 := t.own.frozen 4
        have f5 := t.own.frozen 5
        have f6 := t.own.frozen 6
        simp at c1 c4 c5 c6
        have hh1 : h ≤ 1 := t.half
        have hh2 : (1 : Int) - (h : Int) = ((1 - h : Nat) : Int) := by omega
        have HT := Lib.hid t
        have HOK := Lib.hid hok
        have HR := Lib.hid (hr.mono hB)
        have HS := Lib.hid hs
        have HG := Lib.hid hgt
        clear t hk hr hs hok hd hgt hq0 hT
        go_enter Tryz.func98, Tryz.ntmps98
        go_wp2_with (first
          | (go_at_call 141; refine HA.out.mono ?_; rintro e w' ⟨rfl, rfl⟩)
          | (go_at_call 87; refine HCM.out.mono ?_; rintro e w' ⟨rfl, rfl⟩)
          | (go_at_call 142; refine HFS.out.mono ?_; rintro e w' ⟨rfl, rfl⟩)
          | (go_at_call 61; refine HHS.out.mono ?_; rintro e w' ⟨rfl, rfl⟩)
          | fail)
        obtain ⟨h2, HH2⟩ : ∃ h2, Hid (1 - h = h2) := ⟨_, Lib.hid rfl⟩
        have HT0 := Lib.hid (HT.out.fresh (W := ((w.setCell ⟨q, 4, none⟩ (.int .i64 ((1 - h : Nat) : Int))).setCell ⟨q, 5, none⟩ (.slice none 0 0)).setCell ⟨q, 6, none⟩ (.slice none 0 0)) ((((Chg.refl [q] w).setCell (by simp) _).setCell (by simp) _).setCell (by simp) _) (((HT.out.own.set 4 (.int .i64 ((1 - h : Nat) : Int))).set 5 (.slice none 0 0)).set 6 (.slice none 0 0)))
        have HC0 := Lib.hid (show Chg l w (((w.setCell ⟨q, 4, none⟩ (.int .i64 ((1 - h : Nat) : Int))).setCell ⟨q, 5, none⟩ (.slice none 0 0)).setCell ⟨q, 6, none⟩ (.slice none 0 0)) from (((Chg.refl l w).setCell (.inl HT.out.memq) _).setCell (.inl HT.out.memq) _).setCell (.inl HT.out.memq) _)
        rw [HH2.out] at hh2 HT0 HC0 ⊢
        have hhb : h2 ≤ 1 := by rw [← HH2.out]; omega
        have hKb : K ≤ 1000000 := hl
        clear c1 c4 c5 c6 f4 f5 f6
        go_loopw [36] (fun i wr => ∃ j : Nat, j ≤ K ∧ i = .int .i64 j ∧ Hid (∃ l', Tp wr l' q p n h h2 L (recs (xs.take j)) 0 ∧ (∀ x ∈ l', x ∈ l ∨ w.heap.size ≤ x) ∧ Chg l w wr)) (fun i _ => K - (intOf i).toNat)
        case atStart => exact ⟨0, Nat.zero_le _, rfl, Lib.hid ⟨l, ⟨_, _, _, _, HT0.out⟩, fun x hx => .inl hx, HC0.out⟩⟩
        case round =>
          obtain ⟨j, hj, rfl, HI⟩ := hrel
          by_cases hlt : j < K
          · obtain ⟨l', ⟨vF1, vE1, vF2, vE2, t1⟩, hl', hc'⟩ := HI.out
            have hjx : j < xs.length := by rw [HK.out]; exact hlt
            have hsep : Sep l a xs := HS.out
            have hR1 := HR.out.chgs hc' hsep
            obtain ⟨b0, off, rfl, hb0, hcc⟩ := hR1.at_ hjx
            have hcell := hcc j hjx
            unfold SB.val at hcell
            have hd : decide (j < K) = true := by simpa using hlt
            have hj1 : (j : Int) < (K : Int) := by omega
            have hmem := List.getElem_mem hjx
            have hT2 : recs (xs.take (j + 1)) = recs (xs.take j) ++ [(xs[j]).bs] := by rw [take_snoc xs j hjx, recs_snoc]
            have hokx := HOK.out _ hmem
            have helx := hR1.el _ hmem
            have hsx := hsep.2 _ hmem
            have hroom : (frs (recs (xs.take j))).length + 2 + (xs[j]).bs.length ≤ hsec n * 64 := by
              have h6 : (frs (recs (xs.take (j + 1)))).length ≤ (frs (recs xs)).length := by
                have := frs_take_le (recs xs) (j + 1)
                rw [show (recs xs).take (j + 1) = recs (xs.take (j + 1)) by simp [recs, List.map_take]] at this
                exact this
              rw [hT2, frs_snoc_len, HN.out] at h6
              have := HG.out
              have := HSZ.out
              omega
            generalize xs[j] = y at *
            have hlow : ∀ x, x ∈ l' → x < w.heap.size → x ∈ l := fun x hx hlt2 => by
              rcases hl' x hx with h7 | h7
              · exact h7
              · omega
            have hle1 : (frs (recs (xs.take j))).length ≤ 1000000 := by have := t1.room'; have := HSZ.out; omega
            have hya : ∀ x, y.a = some x → x.block ∉ bl vF2 := fun x hx hm => by
              have h7 := t1.memv _ (.inr (.inr (.inl hm)))
              rcases helx.1 with h8 | ⟨b8, o8, h9, h10, _⟩
              · have : y.bs = [] := by simpa [u8s] using h8
                have h11 := hokx.1
                rw [this] at h11
                simp at h11
              · rw [hx] at h9
                injection h9 with h9
                subst h9
                exact hsx (fun e => by have h11 := hokx.1; rw [e] at h11; simp at h11) _ hx (hlow _ h7 h10)
            obtain ⟨aF2, cF2, rfl⟩ := t1.fr'.sl8
            obtain ⟨aE2, cE2, rfl⟩ := t1.en'.slE
            have hW := with_any wr h2 aF2 aE2 (frs (recs (xs.take j))).length cF2 (recs (xs.take j)).length cE2 (recs (xs.take j)) y.a y.bs y.c w.heap.size t1.fr' t1.en' helx.1 hc'.size hya hokx t1.ok' hle1
            obtain ⟨NF, HNF⟩ : ∃ N, Hid ((frs (recs (xs.take j))).length = N) := ⟨_, Lib.hid rfl⟩
            obtain ⟨NL, HNL⟩ : ∃ N, Hid ((recs (xs.take j)).length = N) := ⟨_, Lib.hid rfl⟩
            rw [HNF.out, HNL.out] at hW t1
            have HW := Lib.hid hW
            have d4 := t1.own.cell 4
            have d5 := t1.own.cell 5
            have d6 := t1.own.cell 6
            simp at d4 d5 d6
            have HT1 := Lib.hid t1
            have HL1 := Lib.hid (And.intro hl' hc')
            have HO1 := Lib.hid (And.intro hokx hroom)
            have HT2 := Lib.hid hT2
            clear hR1 hcc hmem hT2 hokx helx hsx hroom hlow hle1 hya hW t1 hl' hc' hsep
            go_wp2_with fail
            refine HW.out.mono ?_
            rintro e w2 ⟨vF3, vE3, rfl, HKK⟩
            obtain ⟨aF3, cF3, rfl⟩ := HKK.out.fr.sl8
            obtain ⟨aE3, cE3, rfl⟩ := HKK.out.en.slE
            obtain ⟨N3, HN3⟩ : ∃ N, Hid ((frs (recs (xs.take j) ++ [y.bs])).length = N) := ⟨_, Lib.hid rfl⟩
            obtain ⟨M3, HM3⟩ : ∃ N, Hid ((recs (xs.take j) ++ [y.bs]).length = N) := ⟨_, Lib.hid rfl⟩
            rw [HN3.out, HM3.out] at HKK ⊢
            have hq2 := HT1.out.own.chg HKK.out.chg (fun hx => by
              rcases List.mem_append.1 hx with hx | hx
              · obtain ⟨c, hc⟩ := HT1.out.fr'.typ (mem_bl.1 hx)
                have := HT1.out.own
                unfold Own at this
                rw [hc] at this
                cases this
              · obtain ⟨c, hc⟩ := HT1.out.en'.typ (mem_bl.1 hx)
                have := HT1.out.own
                unfold Own at this
                rw [hc] at this
                cases this)
            have g4 := hq2.cell 4
            have g5 := hq2.cell 5
            have g6 := hq2.cell 6
            have f4 := hq2.frozen 4
            have f5 := hq2.frozen 5
            have f6 := hq2.frozen 6
            simp at g4 g5 g6
            have HQ2 := Lib.hid hq2
            clear hq2 d4 d5 d6
            go_wp2_with fail
            go_roundw
            case rel =>
              obtain ⟨r1, r2, r3⟩ := HT1.out.more HKK.out (((Chg.refl [q] w2).setCell (by simp) _).setCell (by simp) _ |>.setCell (by simp) _) (((HQ2.out.set 4 (.int .i64 (h2 : Int))).set 5 (.slice aF3 N3 cF3)).set 6 (.slice aE3 M3 cE3)) HO1.out.1 HO1.out.2
              have hsz := HL1.out.2.size
              refine ⟨j + 1, by omega, by go_num, Lib.hid ⟨_, ⟨_, _, _, _, by rw [HT2.out]; exact r1⟩, fun x hx => ?_, HL1.out.2.then r3 (fun x hx => HL1.out.1 x hx)⟩⟩
              rcases r2 x hx with h7 | h7
              · exact HL1.out.1 x h7
              · right; omega
            case measure => simp [intOf]; omega
          · have hjK : j = K := by omega
            have HX := Lib.hid (show xs.take j = xs by rw [hjK, ← HK.out, List.take_length])
            have hd : decide (j < K) = false := by simpa using hlt
            rw [HX.out] at HI
            clear hjK
            go_wp2_with fail
            go_ret
            exact ⟨rfl, by rw [HH2.out]; exact HI.out⟩
  · have HE := Lib.hid (show replE n k xs = 1 by unfold replE; rw [if_pos hok])
    have HH := Lib.hid (show replH n k h h' xs = h' by unfold replH; rw [HE.out]; rfl)
    have HL := Lib.hid (show replL n k L' xs = L' by unfold replL; rw [HE.out]; rfl)
    rw [HE.out, HH.out, HL.out]
    rw [decide_eq_false hok] at HA
    clear t hr hs hok hd
    go_enter Tryz.func98, Tryz.ntmps98
    go_wp2_with (first
      | (go_at_call 141; refine HA.out.mono ?_; rintro e w' ⟨rfl, rfl⟩)
      | fail)
    go_ret
    exact ⟨rfl, TpT.same hT (Chg.refl _ _)⟩
end
end Go.Proofs.YtihbinphmlgjoaaGreat
