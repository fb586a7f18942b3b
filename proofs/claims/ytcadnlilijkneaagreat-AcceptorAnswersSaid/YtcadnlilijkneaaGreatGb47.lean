/-
  The statement AcceptorAnswers: the walk of its Go text, by the contracts of what it calls: the script ahead.
-/
import Derived.Test.YtcadnlilijkneaaGreatGb46
namespace Go.Proofs.YtcadnlilijkneaaGreat
open Go.RowKit Go.Maps Go.Shelf Go.Deep
set_option linter.unusedVariables false
set_option linter.unusedSimpArgs false

set_option maxHeartbeats 16000000 in
set_option maxRecDepth 100000 in
theorem acceptorAnswers_any (w : World) {a0 : Option Addr} {L : List ActZ} {cc : Nat} (hL : ActsZk w a0 L) {Z : ActZ} (hz : ActZk w Z) {O : Nat} (hO : O < 18446744073709551616) :
    Calls Tryz.prog 8 #[.slice a0 L.length cc, .agg Z.cs.toArray, .int .u64 (O : Int)] w fun e w' => e = .returned (.bool true) ∧ Below w.heap.size w w' := by
  obtain ⟨W, HW⟩ : ∃ W, Hid (w.alloc (.cells Z.cs.toArray 100) = W) := ⟨_, Lib.hid rfl⟩
  have hc : Chg [] w W := by rw [← HW.out]; exact (Chg.refl [] w).alloc _
  have ho : Own W w.heap.size 100 Z.cs := by rw [← HW.out]; exact Own.new w _ _
  have hyI : LyIn W W.heap.size Z.y := (hz.y.inn.below hc.low (Nat.le_refl _)).mono hc.size
  have HZL := Lib.hid (And.intro hyI hz.y.fit)
  have HF := Lib.hid (fun W' (h9 : Chg [] W W') => fits12_any Z W' ((hyI.below h9.low (Nat.le_refl _)).mono h9.size) hz.y.fit)
  have HLR : Hid (∀ W', Chg [] W W' → Ro W' W'.heap.size a0 (L.flatMap ActZ.cs)) := Lib.hid (fun W' h9 => ((hL.row.below hc.low (Nat.le_refl _)).below h9.low hc.size).mono (Nat.le_trans hc.size h9.size))
  have HSY : Hid (∀ W', Chg [] W W' → ∀ S ∈ L, LyIn W' W'.heap.size S.y ∧ SgFit S.y.sg ∧ S.e < 18446744073709551616) := Lib.hid (fun W' h9 S hS => ⟨((((hL.ok S hS).y.inn.below hc.low (Nat.le_refl _)).mono hc.size).below h9.low (Nat.le_refl _)).mono h9.size, (hL.ok S hS).y.fit, (hL.ok S hS).e⟩)
  have HAL := Lib.hid (fun W' => alive12_any W')
  have HN := Lib.hid (anew_ex W 500 (by omega) (by omega))
  have HOO := Lib.hid (fun W' (h9 : Chg [] W W') => ho.chg h9 (by simp))
  have HC := Lib.hid (And.intro hc ho.lt)
  have HZE := Lib.hid (And.intro hz.e hO)
  have hLl := hL.len
  obtain ⟨N, HNn⟩ : ∃ n, Hid (L.length = n) := ⟨_, Lib.hid rfl⟩
  rw [HNn.out] at hLl ⊢
  have hN0 : (N : Int) ≤ 9223372036854775807 := by omega
  obtain ⟨ZC, hZC⟩ : ∃ x, Hid (Z = x) := ⟨_, Lib.hid rfl⟩
  clear hL hz hO hc ho hyI hLl
  obtain ⟨zk, ze, ⟨zb1, zb2⟩, ⟨zye, zya, zyc, zys, zyq⟩, zown, zka, zks, zkc, zra, zrs, zrc⟩ := Z
  simp only [ActZ.cs] at HW HF HOO ⊢
  obtain ⟨zyn, hzyn⟩ : ∃ n, Hid (zys.length = n) := ⟨_, Lib.hid rfl⟩
  obtain ⟨zkn, hzkn⟩ : ∃ n, Hid (zks.length = n) := ⟨_, Lib.hid rfl⟩
  obtain ⟨zrn, hzrn⟩ : ∃ n, Hid (zrs.length = n) := ⟨_, Lib.hid rfl⟩
  simp only [hzyn.out, hzkn.out, hzrn.out] at HW HF HOO ⊢
  go_enter Tryz.func8, Tryz.ntmps8
  go_upto_region 1 with fail
  rw [HW.out]
  go_wp2_with fail
  refine HN.out.mono ?_
  rintro e w1 ⟨p, g, b, rfl, hp, hg, hb, hd, hc1⟩
  have HO1 := Lib.hid (aopen_ex W w1 hc1 hd (by omega) hp hg hb)
  have HC1 := Lib.hid hc1
  clear hp hg hb hd hc1 HN
  go_wp2_with fail
  refine HO1.out.mono ?_
  rintro e w2 ⟨u, rfl, HV2, hc2⟩
  have HC2 := Lib.hid (HC1.out.trans hc2)
  have HI0 : Hid (AnI W w2 u p 500 0 AT.new) := Lib.hid ⟨⟨_, HV2.out, fun x hx => hx.1⟩, by simp [AT.new, frs], HC2.out⟩
  clear HV2 hc2 HO1
  have s2 := HOO.out w2 HC2.out
  have c0 := s2.cell 0
  have c1 := s2.cell 1
  have c2 := s2.cell 2
  have c3 := s2.cell 3
  have c4 := s2.cell 4
  have c5 := s2.cell 5
  have c6 := s2.cell 6
  have c7 := s2.cell 7
  have c8 := s2.cell 8
  have c9 := s2.cell 9
  simp at c0 c1 c2 c3 c4 c5 c6 c7 c8 c9
  clear s2
  go_wp2_with fail
  refine (HF.out _ HC2.out).mono ?_
  rintro e w3 ⟨⟨t, rfl⟩, hc3⟩
  have HC3 := Lib.hid (HC2.out.trans hc3)
  have HI3 := Lib.hid (HI0.out.kept hc3)
  clear hc3 HI0 c0 c1 c2 c3 c4 c5 c6 c7 c8 c9
  cases t with
  | false =>
    go_wp2_with fail
    go_ret
    exact ⟨rfl, (HC.out.1.trans HC3.out).low⟩
  | true =>
    go_upto_block 0 with fail
    go_cut [12] from 12 to 106 (fun _ wx => ∃ (k : Nat) (T : AT), k ≤ 50 ∧ Hid (AnI W wx u p 500 k T))
    case first =>
      go_wp2_with fail
      go_loopw [12] (fun i wr => ∃ (k : Nat) (T : AT), i = .int .i64 (k : Int) ∧ k ≤ N ∧ k ≤ 50 ∧ Hid (AnI W wr u p 500 k T)) (fun i _ => 50 - (Go.RowKit.intOf i).toNat)
      case atStart => exact ⟨0, AT.new, rfl, Nat.zero_le _, Nat.zero_le _, HI3⟩
      case round =>
        obtain ⟨k, T, rfl, hkN, hk50, HI⟩ := hrel
        rename World => wr
        have hk0 : (0 : Int) ≤ (k : Int) := by omega
        by_cases hlt : k < N ∧ k < 50
        · have hd1 : (k : Int) < (N : Int) := by omega
          have hd2 : (k : Int) < 50 := by omega
          have HD := Lib.hid hlt
          have hkL : k < L.length := by rw [HNn.out]; exact hlt.1
          have HCR := Lib.hid HI.out.c
          obtain ⟨rb, ro, rfl, hrb, hcell⟩ := act_cells (HLR.out wr HCR.out) (by omega)
          have hS := HSY.out
          have HS9 : Hid (∀ W', Chg [] W W' → LyIn W' W'.heap.size (L[k]'hkL).y ∧ SgFit (L[k]'hkL).y.sg ∧ (L[k]'hkL).e < 18446744073709551616) := Lib.hid (fun W' h9 => HSY.out W' h9 _ (List.getElem_mem hkL))
          have c0 := hcell k hkL 0 (by omega)
          have c1 := hcell k hkL 1 (by omega)
          have c2 := hcell k hkL 2 (by omega)
          have c3 := hcell k hkL 3 (by omega)
          have c4 := hcell k hkL 4 (by omega)
          have c5 := hcell k hkL 5 (by omega)
          have c6 := hcell k hkL 6 (by omega)
          have c7 := hcell k hkL 7 (by omega)
          have c8 := hcell k hkL 8 (by omega)
          have c9 := hcell k hkL 9 (by omega)
          clear hcell hS hrb
          generalize (L[k]'hkL) = S at *
          have HFS := Lib.hid (fun W' (h9 : Chg [] W W') => fits12_any S W' (HS9.out W' h9).1 (HS9.out W' h9).2.1)
          have HLY := Lib.hid (fun W' => layout12_any S W')
          have HPR : Hid (∀ W', Chg [] wr W' → Calls Tryz.prog 49 #[.pointer (some ⟨u, 0, none⟩), .int .u64 (S.e : Int), btv S.b] W' fun r w' => ∃ r0, r = .returned r0 ∧ ∃ T2, Hid (AnI W w' u p 500 (k + 1) T2 ∧ ∀ y t cs, wr.heap.size ≤ y → Own W' y t cs → Own w' y t cs)) := Lib.hid (fun W' h9 => by
            have hi := HI.out.kept h9
            obtain ⟨B, hB1, hB2⟩ := HI.out.ex
            refine Calls.mono (R' := _) (Prepare_v (hB1.kept h9) (hi.roomy (by omega)) S.e (HS9.out W' hi.c).2.2 S.b) ?_
            rintro r w' ⟨T', h1, h2⟩
            refine ⟨_, h1, _, Lib.hid ⟨AnI.step hi.c hB2 h2.out.2 (by have := pPr_frs 500 T S.e S.b; have := hi.fr; omega), fun y t cs hy hoy => ?_⟩⟩
            obtain ⟨B', g1, g2, g3, g4, m, g5, g6⟩ := h2.out.2
            exact hoy.call g5 g6 (fun hb => by have := hB1.lt y hb; omega))
          have HAC : Hid (∀ W', Chg [] wr W' → Calls Tryz.prog 50 #[.pointer (some ⟨u, 0, none⟩), .int .u64 (S.e : Int), btv S.b, S.ly.val] W' fun r w' => ∃ r0, r = .returned r0 ∧ ∃ T2, Hid (AnI W w' u p 500 (k + 1) T2 ∧ ∀ y (P : World → Prop) (hP : ∀ m A B', P A → Chg m A B' → y ∉ m → P B'), wr.heap.size ≤ y → P W' → P w')) := Lib.hid (fun W' h9 => by
            have hi := HI.out.kept h9
            obtain ⟨B, hB1, hB2⟩ := HI.out.ex
            refine Calls.mono (R' := _) (Accept_v (hB1.kept h9) (hi.roomy (by omega)) S.e (HS9.out W' hi.c).2.2 S.b S.ly (ActZ.lyIn (HS9.out W' hi.c).1) (ActZ.lyFit (HS9.out W' hi.c).2.1)) ?_
            rintro r w' ⟨T', h1, h2⟩
            refine ⟨_, h1, _, Lib.hid ⟨AnI.step hi.c hB2 h2.out.2 (by have := pAc_frs 500 T S.e S.b S.ly.x; have := hi.fr; omega), fun y P hP hy hoy => ?_⟩⟩
            obtain ⟨B', g1, g2, g3, g4, m, g5, g6⟩ := h2.out.2
            exact hP _ _ _ hoy g5 (fun hm => by have := hB1.lt y (g6 y hm); omega))
          have HKM := Lib.hid (show 50 - (k + 1) < 50 - k by omega)
          clear hkL
          obtain ⟨sk, se, ⟨sb1, sb2⟩, ⟨sye, sya, syc, sys, syq⟩, sown, ska, sks, skc, sra, srs, src⟩ := S
          simp only [ActZ.cs, ActZ.ly] at HFS HLY HPR HAC c0 c1 c2 c3 c4 c5 c6 c7 c8 c9
          obtain ⟨syn, hsyn⟩ : ∃ n, Hid (sys.length = n) := ⟨_, Lib.hid rfl⟩
          obtain ⟨skn, hskn⟩ : ∃ n, Hid (sks.length = n) := ⟨_, Lib.hid rfl⟩
          obtain ⟨srn, hsrn⟩ : ∃ n, Hid (srs.length = n) := ⟨_, Lib.hid rfl⟩
          simp only [hsyn.out, hskn.out, hsrn.out] at HFS HLY c0 c1 c2 c3 c4 c5 c6 c7 c8 c9
          simp at c0 c1 c2 c3 c4 c5 c6 c7 c8 c9
          go_upto_region 10 with fail
          have hso := Own.new wr 100 [.int .i64 sk, .int .u64 (se : Int), .int .i64 sb1, .int .i64 sb2, .int .u64 (sye : Int), .slice sya syn syc, .int .i64 syq, .bool sown, .slice ska skn skc, .slice sra srn src]
          have hsc := (Chg.refl [] wr).alloc (.cells #[.int .i64 sk, .int .u64 (se : Int), .int .i64 sb1, .int .i64 sb2, .int .u64 (sye : Int), .slice sya syn syc, .int .i64 syq, .bool sown, .slice ska skn skc, .slice sra srn src] 100)
          generalize wr.alloc (.cells #[.int .i64 sk, .int .u64 (se : Int), .int .i64 sb1, .int .i64 sb2, .int .u64 (sye : Int), .slice sya syn syc, .int .i64 syq, .bool sown, .slice ska skn skc, .slice sra srn src] 100) = w4 at hso hsc ⊢
          obtain ⟨sb, hsb⟩ : ∃ x, Hid (wr.heap.size = x) := ⟨_, Lib.hid rfl⟩
          rw [hsb.out] at hso ⊢
          have HS4 := Lib.hid (And.intro hso hsc)
          clear c0 c1 c2 c3 c4 c5 c6 c7 c8 c9
          have s4 := hso
          have c0 := s4.cell 0
          have c1 := s4.cell 1
          have c2 := s4.cell 2
          have c3 := s4.cell 3
          have c4 := s4.cell 4
          have c5 := s4.cell 5
          have c6 := s4.cell 6
          have c7 := s4.cell 7
          have c8 := s4.cell 8
          have c9 := s4.cell 9
          simp at c0 c1 c2 c3 c4 c5 c6 c7 c8 c9
          clear s4 hso hsc
          go_wp2_with fail
          refine (HFS.out _ (HCR.out.trans HS4.out.2)).mono ?_
          rintro e w5 ⟨⟨t5, rfl⟩, hc5⟩
          have HC5 := Lib.hid (HS4.out.2.trans hc5)
          have HS5 := Lib.hid (HS4.out.1.chg hc5 (by simp))
          clear hc5 c0 c1 c2 c3 c4 c5 c6 c7 c8 c9
          have s5 := HS5.out
          have c0 := s5.cell 0
          have c1 := s5.cell 1
          have c2 := s5.cell 2
          have c3 := s5.cell 3
          have c4 := s5.cell 4
          have c5 := s5.cell 5
          have c6 := s5.cell 6
          have c7 := s5.cell 7
          have c8 := s5.cell 8
          have c9 := s5.cell 9
          simp at c0 c1 c2 c3 c4 c5 c6 c7 c8 c9
          clear s5
          cases t5 with
          | false =>
            have HIR := Lib.hid ((HI.out.kept HC5.out).more)
            go_wp2_with fail
            go_roundw
            case rel => exact ⟨k + 1, T, by go_num, by have := HD.out; omega, by have := HD.out; omega, HIR⟩
            case measure => have := HKM.out; simp [Go.RowKit.intOf]; omega
          | true =>
            by_cases hk1 : sk = 1
            · subst hk1
              go_upto_region 12 with fail
              go_wp2_with fail
              refine (HPR.out _ HC5.out).mono ?_
              rintro r w6 ⟨r0, rfl, T2, HI6⟩
              clear c0 c1 c2 c3 c4 c5 c6 c7 c8 c9
              have HI6A := Lib.hid HI6.out.1
              have s6 := HI6.out.2 sb _ _ (by have := hsb.out; omega) HS5.out
              have c0 := s6.cell 0
              simp at c0
              clear s6 HI6
              go_wp2_with fail
              go_roundw
              case rel => exact ⟨k + 1, T2, by go_num, by have := HD.out; omega, by have := HD.out; omega, HI6A⟩
              case measure => have := HKM.out; simp [Go.RowKit.intOf]; omega
            · have hk1b : (sk == 1) = false := by rw [beq_eq_false_iff_ne]; exact hk1
              clear hk1
              by_cases hk2 : sk = 2
              · subst hk2
                go_upto_region 14 with fail
                have HAS := Lib.hid HS5.out.actS
                clear c0 c1 c2 c3 c4 c5 c6 c7 c8 c9
                refine wp_region_held_drew (S := (fun W' : World => W'.cell? ⟨sb, 0, none⟩ = some (.int .i64 2) ∧ W'.cell? ⟨sb, 1, none⟩ = some (.int .u64 (se : Int)) ∧ W'.cell? ⟨sb, 2, none⟩ = some (.int .i64 sb1) ∧ W'.cell? ⟨sb, 3, none⟩ = some (.int .i64 sb2) ∧ W'.cell? ⟨sb, 4, none⟩ = some (.int .u64 (sye : Int)) ∧ W'.cell? ⟨sb, 5, none⟩ = some (.slice sya syn syc) ∧ W'.cell? ⟨sb, 6, none⟩ = some (.int .i64 syq) ∧ W'.cell? ⟨sb, 7, none⟩ = some (.bool sown) ∧ W'.cell? ⟨sb, 8, none⟩ = some (.slice ska skn skc) ∧ W'.cell? ⟨sb, 9, none⟩ = some (.slice sra srn src))) (by first | (as_aux_lemma => kernel_rfl) | kernel_rfl) (by have h9 := HAS.out.step (m := []) (Chg.refl [] w5).drew (by simp); exact h9) (fun hHeld => ?_)
                refine wpAnyH_take (i := 0) (v := ?_) rfl (by first | (as_aux_lemma => kernel_rfl) | kernel_rfl) (by first | (as_aux_lemma => kernel_rfl) | kernel_rfl) (by first | (as_aux_lemma => kernel_rfl) | kernel_rfl) (fun _ _ _ h => h) (Or.inl ⟨by first | (as_aux_lemma => kernel_rfl) | kernel_rfl, ?_⟩) hHeld ?_
                rotate_left
                · (intro w hSw; first | (go_simp; done) | (go_simp; with_reducible rfl))
                (try simp only [Act.put, List.getElem_toArray, List.getElem_cons_succ, List.getElem_cons_zero, List.setIfInBounds_toArray, List.set_cons_zero, List.set_cons_succ])
                refine wpAnyH_take (i := 1) (v := ?_) rfl (by first | (as_aux_lemma => kernel_rfl) | kernel_rfl) (by first | (as_aux_lemma => kernel_rfl) | kernel_rfl) (by first | (as_aux_lemma => kernel_rfl) | kernel_rfl) (fun _ _ _ h => h) (Or.inl ⟨by first | (as_aux_lemma => kernel_rfl) | kernel_rfl, ?_⟩) hHeld ?_
                rotate_left
                · (intro w hSw; first | (go_simp; done) | (go_simp; with_reducible rfl))
                (try simp only [Act.put, List.getElem_toArray, List.getElem_cons_succ, List.getElem_cons_zero, List.setIfInBounds_toArray, List.set_cons_zero, List.set_cons_succ])
                refine wpAnyH_take (i := 2) (v := ?_) rfl (by first | (as_aux_lemma => kernel_rfl) | kernel_rfl) (by first | (as_aux_lemma => kernel_rfl) | kernel_rfl) (by first | (as_aux_lemma => kernel_rfl) | kernel_rfl) (fun _ _ _ h => h) (Or.inl ⟨by first | (as_aux_lemma => kernel_rfl) | kernel_rfl, ?_⟩) hHeld ?_
                rotate_left
                · (intro w hSw; first | (go_simp; done) | (go_simp; with_reducible rfl))
                (try simp only [Act.put, List.getElem_toArray, List.getElem_cons_succ, List.getElem_cons_zero, List.setIfInBounds_toArray, List.set_cons_zero, List.set_cons_succ])
                refine wpAnyH_take (i := 3) (v := ?_) rfl (by first | (as_aux_lemma => kernel_rfl) | kernel_rfl) (by first | (as_aux_lemma => kernel_rfl) | kernel_rfl) (by first | (as_aux_lemma => kernel_rfl) | kernel_rfl) (fun _ _ _ h => h) (Or.inl ⟨by first | (as_aux_lemma => kernel_rfl) | kernel_rfl, ?_⟩) hHeld ?_
                rotate_left
                · (intro w hSw; first | (go_simp; done) | (go_simp; with_reducible rfl))
                (try simp only [Act.put, List.getElem_toArray, List.getElem_cons_succ, List.getElem_cons_zero, List.setIfInBounds_toArray, List.set_cons_zero, List.set_cons_succ])
                refine wpAnyH_take (i := 4) (v := ?_) rfl (by first | (as_aux_lemma => kernel_rfl) | kernel_rfl) (by first | (as_aux_lemma => kernel_rfl) | kernel_rfl) (by first | (as_aux_lemma => kernel_rfl) | kernel_rfl) (fun _ _ _ h => h) (Or.inl ⟨by first | (as_aux_lemma => kernel_rfl) | kernel_rfl, ?_⟩) hHeld ?_
                rotate_left
                · (intro w hSw; first | (go_simp; done) | (go_simp; with_reducible rfl))
                (try simp only [Act.put, List.getElem_toArray, List.getElem_cons_succ, List.getElem_cons_zero, List.setIfInBounds_toArray, List.set_cons_zero, List.set_cons_succ])
                refine wpAnyH_take (i := 5) (v := ?_) rfl (by first | (as_aux_lemma => kernel_rfl) | kernel_rfl) (by first | (as_aux_lemma => kernel_rfl) | kernel_rfl) (by first | (as_aux_lemma => kernel_rfl) | kernel_rfl) (fun _ _ _ h => h) (Or.inl ⟨by first | (as_aux_lemma => kernel_rfl) | kernel_rfl, ?_⟩) hHeld ?_
                rotate_left
                · (intro w hSw; first | (go_simp; done) | (go_simp; with_reducible rfl))
                (try simp only [Act.put, List.getElem_toArray, List.getElem_cons_succ, List.getElem_cons_zero, List.setIfInBounds_toArray, List.set_cons_zero, List.set_cons_succ])
                refine wpAnyH_ready (rs := [6]) (by first | (as_aux_lemma => kernel_rfl) | kernel_rfl) (by simp) (AllReadyH.cons rfl (fun K hK => ?_) AllReadyH.nil)
                have hH := hHeld
                (go_simp; go_at_call 51; refine (HLY.out _).mono ?_; rintro r w6 ⟨rfl, hc6⟩)
                refine hK.out _ _ (by exact ActS.step hH hc6 (by simp)) (fun hHq1 => ?_)
                clear hK K hH 
                have HC6 := Lib.hid (HC5.out.drew.trans hc6)
                (try simp only [Act.put, List.getElem_toArray, List.getElem_cons_succ, List.getElem_cons_zero, List.setIfInBounds_toArray, List.set_cons_zero, List.set_cons_succ])
                refine wpAnyH_ready (rs := [7]) (by first | (as_aux_lemma => kernel_rfl) | kernel_rfl) (by simp) (AllReadyH.cons rfl (fun K hK => ?_) AllReadyH.nil)
                have hH := hHq1
                (go_simp; go_at_call 50; refine (HAC.out _ HC6.out).mono ?_; rintro r w7 ⟨r0, rfl, T2, HI7⟩)
                refine hK.out _ _ (by exact HI7.out.2 sb (ActS sb 2 se sb1 sb2 sye sya syn syc syq sown ska skn skc sra srn src) (fun m A B' h h2 h3 => h.step h2 h3) (by have := hsb.out; omega) hH) (fun hHq2 => ?_)
                clear hK K hH hHq1
                (try simp only [Act.put, List.getElem_toArray, List.getElem_cons_succ, List.getElem_cons_zero, List.setIfInBounds_toArray, List.set_cons_zero, List.set_cons_succ])
                refine wpAnyH_done (by first | (as_aux_lemma => kernel_rfl) | kernel_rfl) ?_ _
                have hEnd := hHq2
                have HI8 := Lib.hid HI7.out.1
                clear hEnd hHeld HI7
                go_wp2_with fail
                go_roundw
                case rel => exact ⟨k + 1, T2, by go_num, by have := HD.out; omega, by have := HD.out; omega, HI8⟩
                case measure => have := HKM.out; simp [Go.RowKit.intOf]; omega
              · have hk2b : (sk == 2) = false := by rw [beq_eq_false_iff_ne]; exact hk2
                have HIR := Lib.hid ((HI.out.kept HC5.out).more)
                clear hk2
                go_wp2_with fail
                go_roundw
                case rel => exact ⟨k + 1, T, by go_num, by have := HD.out; omega, by have := HD.out; omega, HIR⟩
                case measure => have := HKM.out; simp [Go.RowKit.intOf]; omega
        · rcases (show ¬ k < N ∨ k < N ∧ ¬ k < 50 from by omega) with h1 | ⟨h1, h2⟩
          · have hd1 : ¬ ((k : Int) < (N : Int)) := by omega
            clear h1 hlt
            go_wp2_with fail
            go_meet
            case rel => exact ⟨k, T, hk50, HI⟩
          · have hd1 : (k : Int) < (N : Int) := by omega
            have hd2 : ¬ ((k : Int) < 50) := by omega
            clear h1 h2 hlt
            go_wp2_with fail
            go_meet
            case rel => exact ⟨k, T, hk50, HI⟩
    case rest =>
      rename World => wr
      obtain ⟨k, T, hk50, HI⟩ := hcut
      have hIk := HI.out
      obtain ⟨B, hB1, hB2⟩ := hIk.ex
      have HBB := Lib.hid (And.intro hB1 hB2)
      have HCR := Lib.hid hIk.c
      have hRm : Roomy 500 T := hIk.roomy (by omega)
      have HRM := Lib.hid hRm
      have HLN := Lib.hid (fun W' (h9 : Chg [] wr W') => Learn_v (hB1.kept h9) ze HZE.out.1)
      have HLO := Lib.hid (fun W' (h9 : Chg [] wr W') => Learn_v (hB1.kept h9) O HZE.out.2)
      have HZI : Hid (∀ W', Chg [] W W' → LyIn W' W'.heap.size (ActZ.ly ZC) ∧ SgFit (ActZ.ly ZC).sg) := Lib.hid (fun W' h9 => by
        rw [← hZC.out]
        exact ⟨(HZL.out.1.below h9.low (Nat.le_refl _)).mono h9.size, HZL.out.2⟩)
      have HLYZ := Lib.hid (fun W' => layout12_any ZC W')
      have HPRZ := Lib.hid (fun W' (h9 : Chg [] wr W') => Prepare_v (hB1.kept h9) hRm ze HZE.out.1 (zb1, zb2))
      have HACZ := Lib.hid (fun W' (h9 : Chg [] wr W') => Accept_v (hB1.kept h9) hRm ze HZE.out.1 (zb1, zb2) (ActZ.ly ZC) (HZI.out W' (hIk.c.trans h9)).1 (HZI.out W' (hIk.c.trans h9)).2)
      obtain ⟨YZ, hYZ⟩ : ∃ x, Hid ((ActZ.ly ZC).x = x) := ⟨_, Lib.hid rfl⟩
      simp only [hYZ.out] at HACZ
      rw [← hZC.out] at HLYZ HACZ
      simp only [ActZ.cs, ActZ.ly, LyT.val, hzyn.out, hzkn.out, hzrn.out, EsT.val] at HLYZ HACZ HPRZ HLN HLO
      generalize (if zown = true then ze else zye) = le at HLYZ HACZ
      clear hIk hB1 hB2 hRm
      have s9 := HOO.out wr HCR.out
      have c1 := s9.cell 1
      simp at c1
      clear s9
      go_upto_region 15 with fail
      go_wp2_with fail
      refine (HLN.out wr (Chg.refl _ _)).mono ?_
      rintro r w4 ⟨T1, rfl, HX4, hc4⟩
      clear c1
      go_upto_region 16 with fail
      have hbo := Own.new w4 116 [.int .i64 T1.p.1, .int .i64 T1.p.2, .int .i64 T1.a.1, .int .i64 T1.a.2, .int .u64 (T1.y.e : Int), .slice T1.y.a T1.y.sg.length T1.y.c, .int .i64 T1.y.q]
      have hbc := (Chg.refl [] w4).alloc (.cells #[.int .i64 T1.p.1, .int .i64 T1.p.2, .int .i64 T1.a.1, .int .i64 T1.a.2, .int .u64 (T1.y.e : Int), .slice T1.y.a T1.y.sg.length T1.y.c, .int .i64 T1.y.q] 116)
      generalize w4.alloc (.cells #[.int .i64 T1.p.1, .int .i64 T1.p.2, .int .i64 T1.a.1, .int .i64 T1.a.2, .int .u64 (T1.y.e : Int), .slice T1.y.a T1.y.sg.length T1.y.c, .int .i64 T1.y.q] 116) = w5 at hbo hbc ⊢
      obtain ⟨gw, hgw⟩ : ∃ x, Hid (w4.heap.size = x) := ⟨_, Lib.hid rfl⟩
      rw [hgw.out] at hbo ⊢
      have HW5 := Lib.hid hbo
      have HC5 := Lib.hid (hc4.trans hbc)
      have HX5 : Hid (T1.x = (pLe T ze).2 ∧ LyP w5 (fun x => wr.heap.size ≤ x) T1.y ∧ LyS T1.y) := Lib.hid ⟨HX4.out.1, HX4.out.2.1.chg hbc (by simp), HX4.out.2.2⟩
      have HGW : Hid (wr.heap.size ≤ gw) := Lib.hid (by have := hc4.size; have := hgw.out; omega)
      clear hbo hbc hc4 HX4
      go_wp2_with fail
      refine (HLO.out w5 HC5.out).mono ?_
      rintro r w6 ⟨Tf, rfl, HX6, hc6⟩
      go_upto_region 17 with fail
      have hbo := Own.new w6 116 [.int .i64 Tf.p.1, .int .i64 Tf.p.2, .int .i64 Tf.a.1, .int .i64 Tf.a.2, .int .u64 (Tf.y.e : Int), .slice Tf.y.a Tf.y.sg.length Tf.y.c, .int .i64 Tf.y.q]
      have hbc := (Chg.refl [] w6).alloc (.cells #[.int .i64 Tf.p.1, .int .i64 Tf.p.2, .int .i64 Tf.a.1, .int .i64 Tf.a.2, .int .u64 (Tf.y.e : Int), .slice Tf.y.a Tf.y.sg.length Tf.y.c, .int .i64 Tf.y.q] 116)
      generalize w6.alloc (.cells #[.int .i64 Tf.p.1, .int .i64 Tf.p.2, .int .i64 Tf.a.1, .int .i64 Tf.a.2, .int .u64 (Tf.y.e : Int), .slice Tf.y.a Tf.y.sg.length Tf.y.c, .int .i64 Tf.y.q] 116) = w7 at hbo hbc ⊢
      obtain ⟨gf, hgf⟩ : ∃ x, Hid (w6.heap.size = x) := ⟨_, Lib.hid rfl⟩
      rw [hgf.out] at hbo ⊢
      have HF7 := Lib.hid hbo
      have HC57 := Lib.hid (hc6.trans hbc)
      have HX7 : Hid (Tf.x = (pLe T O).2 ∧ LyP w7 (fun x => wr.heap.size ≤ x) Tf.y ∧ LyS Tf.y) := Lib.hid ⟨HX6.out.1, (HX6.out.2.1.chg hbc (by simp)).mono (fun x _ hx => by have := HC5.out.size; omega), HX6.out.2.2⟩
      have HGF : Hid (wr.heap.size ≤ gf) := Lib.hid (by have := HC5.out.size; have := hc6.size; have := hgf.out; omega)
      clear hbo hbc hc6 HX6
      go_upto_region 18 with fail
      have hbo := Own.new w7 116 [.int .i64 0, .int .i64 0, .int .i64 0, .int .i64 0, .int .u64 0, .slice none 0 0, .int .i64 0]
      have hbc := (Chg.refl [] w7).alloc (.cells #[.int .i64 0, .int .i64 0, .int .i64 0, .int .i64 0, .int .u64 0, .slice none 0 0, .int .i64 0] 116)
      generalize w7.alloc (.cells #[.int .i64 0, .int .i64 0, .int .i64 0, .int .i64 0, .int .u64 0, .slice none 0 0, .int .i64 0] 116) = w8 at hbo hbc ⊢
      obtain ⟨gt, hgt⟩ : ∃ x, Hid (w7.heap.size = x) := ⟨_, Lib.hid rfl⟩
      rw [hgt.out] at hbo ⊢
      have HT8 := Lib.hid hbo
      have HC78 := Lib.hid hbc
      have HC8 := Lib.hid ((HC5.out.trans HC57.out).trans hbc)
      have HCW8 := Lib.hid (HCR.out.trans HC8.out)
      have HW8 := Lib.hid ((HW5.out.chg HC57.out (by simp)).chg hbc (by simp))
      have HF8 := Lib.hid (HF7.out.chg hbc (by simp))
      have HGT : Hid (wr.heap.size ≤ gt) := Lib.hid (by have := HC5.out.size; have := HC57.out.size; have := hgt.out; omega)
      have HNE : Hid (gw ≠ gt ∧ gf ≠ gt) := Lib.hid ⟨by have := HW5.out.lt; have := HC57.out.size; have := hgt.out; omega, by have := HF7.out.lt; have := hgt.out; omega⟩
      clear hbo hbc
      have s9 := HOO.out w8 HCW8.out
      have c2 := s9.cell 2
      have c3 := s9.cell 3
      simp at c2 c3
      clear s9
      have s9 := HW8.out
      have a0 := s9.cell 0
      have a1 := s9.cell 1
      simp [EsT.cs] at a0 a1
      clear s9
      have HLS := Lib.hid (fun W' => aLess_any T1.p (zb1, zb2) W')
      go_upto_region 20 with (first | (go_at_call 46; refine (HLS.out _).mono ?_; rintro r w9 ⟨rfl, hc9⟩; have HC89 := Lib.hid hc9; clear hc9) | fail)
      clear a0 a1 c2 c3 HLS
      have HC9 := Lib.hid (HC8.out.trans HC89.out)
      have HCW9 := Lib.hid (HCR.out.trans HC9.out)
      have HW9 := Lib.hid (HW8.out.chg HC89.out (by simp))
      have HF9 := Lib.hid (HF8.out.chg HC89.out (by simp))
      have HT9 := Lib.hid (HT8.out.chg HC89.out (by simp))
      have HY1 : Hid (LyP w9 (fun x => wr.heap.size ≤ x ∧ x ≠ gt) T1.y) := Lib.hid (((((HX5.out.2.1.mono (P' := fun x => wr.heap.size ≤ x ∧ x < w5.heap.size) (fun x hx hp => ⟨hp, hx⟩)).chg HC57.out (by simp)).chg HC78.out (by simp)).chg HC89.out (by simp)).mono (fun x _ hx => ⟨hx.1, by have := HC57.out.size; have := hgt.out; omega⟩))
      have HYF : Hid (LyP w9 (fun x => wr.heap.size ≤ x ∧ x ≠ gt) Tf.y) := Lib.hid ((((HX7.out.2.1.mono (P' := fun x => wr.heap.size ≤ x ∧ x < w7.heap.size) (fun x hx hp => ⟨hp, hx⟩)).chg HC78.out (by simp)).chg HC89.out (by simp)).mono (fun x _ hx => ⟨hx.1, by have := hgt.out; omega⟩))
      have HZZ := Lib.hid (HOO.out w9 HCW9.out).actS
      have s9 := HOO.out w9 HCW9.out
      have c0 := s9.cell 0
      have c1 := s9.cell 1
      have c2 := s9.cell 2
      have c3 := s9.cell 3
      simp at c0 c1 c2 c3
      clear s9
      go_upto_if 127 with fail
      go_cut [20, 21] from 20 to 153 (fun v20 v21 wx => ∃ k1 : Bool, (zk == 1) = k1 ∧ AnJ W u p T ze (zb1, zb2) YZ k1 gw gf gt T1 Tf v20 v21 wx)
      case first =>
        by_cases hk1 : zk = 1
        · have hk1b : (zk == 1) = true := by rw [beq_iff_eq]; exact hk1
          have HK1 := Lib.hid hk1b
          clear hk1
          go_wp2_with fail
          refine (HPRZ.out w9 HC9.out).mono ?_
          rintro r w10 ⟨Tt, rfl, HX10⟩
          have ho10 : Own w10 gt 116 zEc := by
            obtain ⟨B', g1, g2, g3, g4, m, g5, g6⟩ := HX10.out.2
            exact HT9.out.call g5 g6 (fun hb => by have := HBB.out.1.lt gt hb; have := HGT.out; omega)
          have HO10 := Lib.hid ho10
          have s9 := ho10
          have d0 := s9.cell 0
          have f0 := s9.frozen 0
          have d1 := s9.cell 1
          have f1 := s9.frozen 1
          have d2 := s9.cell 2
          have f2 := s9.frozen 2
          have d3 := s9.cell 3
          have f3 := s9.frozen 3
          have d4 := s9.cell 4
          have f4 := s9.frozen 4
          have d5 := s9.cell 5
          have f5 := s9.frozen 5
          have d6 := s9.cell 6
          have f6 := s9.frozen 6
          simp at d0 d1 d2 d3 d4 d5 d6
          clear s9
          clear ho10 c0 c1 c2 c3
          go_wp2_with fail
          go_meet
          case rel =>
            have hp7 := HO10.out.put7 (.int .i64 Tt.p.1) (.int .i64 Tt.p.2) (.int .i64 Tt.a.1) (.int .i64 Tt.a.2) (.int .u64 (Tt.y.e : Int)) (.slice Tt.y.a Tt.y.sg.length Tt.y.c) (.int .i64 Tt.y.q)
            have hc7 := (Chg.refl [gt] w10).put7 (g := gt) (by simp) (.int .i64 Tt.p.1) (.int .i64 Tt.p.2) (.int .i64 Tt.a.1) (.int .i64 Tt.a.2) (.int .u64 (Tt.y.e : Int)) (.slice Tt.y.a Tt.y.sg.length Tt.y.c) (.int .i64 Tt.y.q)
            refine ⟨true, HK1.out, AnJ.mk' (Tt := Tt) HBB.out.2 HBB.out.1.lt HCR.out.size HCW9.out HW9.out HF9.out HT9.out ⟨HGW.out, HW9.out.lt⟩ ⟨HGF.out, HF9.out.lt⟩ ⟨HGT.out, HT9.out.lt⟩ HNE.out HY1.out HYF.out HX10.out.2 HX10.out.1 (by simp) (by simp) hc7 hp7⟩
        · have hk1b : (zk == 1) = false := by rw [beq_eq_false_iff_ne]; exact hk1
          have HK1 := Lib.hid hk1b
          clear hk1
          clear c0 c1 c2 c3
          go_upto_region 22 with fail
          refine wp_region_held_drew (S := (fun W' : World => W'.cell? ⟨w.heap.size, 0, none⟩ = some (.int .i64 zk) ∧ W'.cell? ⟨w.heap.size, 1, none⟩ = some (.int .u64 (ze : Int)) ∧ W'.cell? ⟨w.heap.size, 2, none⟩ = some (.int .i64 zb1) ∧ W'.cell? ⟨w.heap.size, 3, none⟩ = some (.int .i64 zb2) ∧ W'.cell? ⟨w.heap.size, 4, none⟩ = some (.int .u64 (zye : Int)) ∧ W'.cell? ⟨w.heap.size, 5, none⟩ = some (.slice zya zyn zyc) ∧ W'.cell? ⟨w.heap.size, 6, none⟩ = some (.int .i64 zyq) ∧ W'.cell? ⟨w.heap.size, 7, none⟩ = some (.bool zown) ∧ W'.cell? ⟨w.heap.size, 8, none⟩ = some (.slice zka zkn zkc) ∧ W'.cell? ⟨w.heap.size, 9, none⟩ = some (.slice zra zrn zrc))) (by first | (as_aux_lemma => kernel_rfl) | kernel_rfl) (by have h9 := HZZ.out.step (m := []) (Chg.refl [] w9).drew (by simp); exact h9) (fun hHeld => ?_)
          refine wpAnyH_take (i := 0) (v := ?_) rfl (by first | (as_aux_lemma => kernel_rfl) | kernel_rfl) (by first | (as_aux_lemma => kernel_rfl) | kernel_rfl) (by first | (as_aux_lemma => kernel_rfl) | kernel_rfl) (fun _ _ _ h => h) (Or.inl ⟨by first | (as_aux_lemma => kernel_rfl) | kernel_rfl, ?_⟩) hHeld ?_
          rotate_left
          · (intro w hSw; first | (go_simp; done) | (go_simp; with_reducible rfl))
          (try simp only [Act.put, List.getElem_toArray, List.getElem_cons_succ, List.getElem_cons_zero, List.setIfInBounds_toArray, List.set_cons_zero, List.set_cons_succ])
          refine wpAnyH_take (i := 1) (v := ?_) rfl (by first | (as_aux_lemma => kernel_rfl) | kernel_rfl) (by first | (as_aux_lemma => kernel_rfl) | kernel_rfl) (by first | (as_aux_lemma => kernel_rfl) | kernel_rfl) (fun _ _ _ h => h) (Or.inl ⟨by first | (as_aux_lemma => kernel_rfl) | kernel_rfl, ?_⟩) hHeld ?_
          rotate_left
          · (intro w hSw; first | (go_simp; done) | (go_simp; with_reducible rfl))
          (try simp only [Act.put, List.getElem_toArray, List.getElem_cons_succ, List.getElem_cons_zero, List.setIfInBounds_toArray, List.set_cons_zero, List.set_cons_succ])
          refine wpAnyH_take (i := 2) (v := ?_) rfl (by first | (as_aux_lemma => kernel_rfl) | kernel_rfl) (by first | (as_aux_lemma => kernel_rfl) | kernel_rfl) (by first | (as_aux_lemma => kernel_rfl) | kernel_rfl) (fun _ _ _ h => h) (Or.inl ⟨by first | (as_aux_lemma => kernel_rfl) | kernel_rfl, ?_⟩) hHeld ?_
          rotate_left
          · (intro w hSw; first | (go_simp; done) | (go_simp; with_reducible rfl))
          (try simp only [Act.put, List.getElem_toArray, List.getElem_cons_succ, List.getElem_cons_zero, List.setIfInBounds_toArray, List.set_cons_zero, List.set_cons_succ])
          refine wpAnyH_take (i := 3) (v := ?_) rfl (by first | (as_aux_lemma => kernel_rfl) | kernel_rfl) (by first | (as_aux_lemma => kernel_rfl) | kernel_rfl) (by first | (as_aux_lemma => kernel_rfl) | kernel_rfl) (fun _ _ _ h => h) (Or.inl ⟨by first | (as_aux_lemma => kernel_rfl) | kernel_rfl, ?_⟩) hHeld ?_
          rotate_left
          · (intro w hSw; first | (go_simp; done) | (go_simp; with_reducible rfl))
          (try simp only [Act.put, List.getElem_toArray, List.getElem_cons_succ, List.getElem_cons_zero, List.setIfInBounds_toArray, List.set_cons_zero, List.set_cons_succ])
          refine wpAnyH_take (i := 4) (v := ?_) rfl (by first | (as_aux_lemma => kernel_rfl) | kernel_rfl) (by first | (as_aux_lemma => kernel_rfl) | kernel_rfl) (by first | (as_aux_lemma => kernel_rfl) | kernel_rfl) (fun _ _ _ h => h) (Or.inl ⟨by first | (as_aux_lemma => kernel_rfl) | kernel_rfl, ?_⟩) hHeld ?_
          rotate_left
          · (intro w hSw; first | (go_simp; done) | (go_simp; with_reducible rfl))
          (try simp only [Act.put, List.getElem_toArray, List.getElem_cons_succ, List.getElem_cons_zero, List.setIfInBounds_toArray, List.set_cons_zero, List.set_cons_succ])
          refine wpAnyH_take (i := 5) (v := ?_) rfl (by first | (as_aux_lemma => kernel_rfl) | kernel_rfl) (by first | (as_aux_lemma => kernel_rfl) | kernel_rfl) (by first | (as_aux_lemma => kernel_rfl) | kernel_rfl) (fun _ _ _ h => h) (Or.inl ⟨by first | (as_aux_lemma => kernel_rfl) | kernel_rfl, ?_⟩) hHeld ?_
          rotate_left
          · (intro w hSw; first | (go_simp; done) | (go_simp; with_reducible rfl))
          (try simp only [Act.put, List.getElem_toArray, List.getElem_cons_succ, List.getElem_cons_zero, List.setIfInBounds_toArray, List.set_cons_zero, List.set_cons_succ])
          refine wpAnyH_ready (rs := [6]) (by first | (as_aux_lemma => kernel_rfl) | kernel_rfl) (by simp) (AllReadyH.cons rfl (fun K hK => ?_) AllReadyH.nil)
          have hH := hHeld
          (go_simp; go_at_call 51; refine (HLYZ.out _).mono ?_; rintro r w10 ⟨rfl, hc10⟩)
          refine hK.out _ _ (by exact ActS.step hH hc10 (by simp)) (fun hHq1 => ?_)
          clear hK K hH 
          have HC10 := Lib.hid (HC9.out.trans ((Chg.refl [] w9).drew.trans hc10)); have HC910 := Lib.hid ((Chg.refl [] w9).drew.trans hc10)
          (try simp only [Act.put, List.getElem_toArray, List.getElem_cons_succ, List.getElem_cons_zero, List.setIfInBounds_toArray, List.set_cons_zero, List.set_cons_succ])
          refine wpAnyH_ready (rs := [7]) (by first | (as_aux_lemma => kernel_rfl) | kernel_rfl) (by simp) (AllReadyH.cons rfl (fun K hK => ?_) AllReadyH.nil)
          have hH := hHq1
          (go_simp; go_at_call 50; refine (HACZ.out _ HC10.out).mono ?_; rintro r w11 ⟨Tt, rfl, HX11⟩)
          refine hK.out _ _ (by exact (by obtain ⟨B', g1, g2, g3, g4, m, g5, g6⟩ := HX11.out.2; exact ActS.step hH g5 (fun hm => by have := HBB.out.2 _ (g6 _ hm); have := HC.out.2; omega))) (fun hHq2 => ?_)
          clear hK K hH hHq1
          have ho11 : Own w11 gt 116 zEc := (by obtain ⟨B', g1, g2, g3, g4, m, g5, g6⟩ := HX11.out.2; exact (HT9.out.chg HC910.out (by simp)).call g5 g6 (fun hb => by have := HBB.out.1.lt gt hb; have := HGT.out; omega)); have ow11 : Own w11 gw 116 T1.cs := (by obtain ⟨B', g1, g2, g3, g4, m, g5, g6⟩ := HX11.out.2; exact (HW9.out.chg HC910.out (by simp)).call g5 g6 (fun hb => by have := HBB.out.1.lt gw hb; have := HGW.out; omega)); have HO11 := Lib.hid (And.intro ho11 ow11); have d0 := ho11.cell 0; have f0 := ho11.frozen 0; have d1 := ho11.cell 1; have f1 := ho11.frozen 1; have d2 := ho11.cell 2; have f2 := ho11.frozen 2; have d3 := ho11.cell 3; have f3 := ho11.frozen 3; have d4 := ho11.cell 4; have f4 := ho11.frozen 4; have d5 := ho11.cell 5; have f5 := ho11.frozen 5; have d6 := ho11.cell 6; have f6 := ho11.frozen 6; simp at d0 d1 d2 d3 d4 d5 d6; clear ho11 ow11
          (try simp only [Act.put, List.getElem_toArray, List.getElem_cons_succ, List.getElem_cons_zero, List.setIfInBounds_toArray, List.set_cons_zero, List.set_cons_succ])
          refine wpAnyH_take (i := 8) (v := ?_) rfl (by first | (as_aux_lemma => kernel_rfl) | kernel_rfl) (by first | (as_aux_lemma => kernel_rfl) | kernel_rfl) (by first | (as_aux_lemma => kernel_rfl) | kernel_rfl) (fun _ _ _ h => h) (Or.inl ⟨by first | (as_aux_lemma => kernel_rfl) | kernel_rfl, ?_⟩) hHq2 ?_
          rotate_left
          · (intro w hSw; first | (go_simp; done) | (go_simp; with_reducible rfl))
          (try simp only [Act.put, List.getElem_toArray, List.getElem_cons_succ, List.getElem_cons_zero, List.setIfInBounds_toArray, List.set_cons_zero, List.set_cons_succ])
          refine wpAnyH_take (i := 9) (v := ?_) rfl (by first | (as_aux_lemma => kernel_rfl) | kernel_rfl) (by first | (as_aux_lemma => kernel_rfl) | kernel_rfl) (by first | (as_aux_lemma => kernel_rfl) | kernel_rfl) (fun _ _ _ h => h) (Or.inl ⟨by first | (as_aux_lemma => kernel_rfl) | kernel_rfl, ?_⟩) hHq2 ?_
          rotate_left
          · (intro w hSw; first | (go_simp; done) | (go_simp; with_reducible rfl))
          (try simp only [Act.put, List.getElem_toArray, List.getElem_cons_succ, List.getElem_cons_zero, List.setIfInBounds_toArray, List.set_cons_zero, List.set_cons_succ])
          refine wpAnyH_take (i := 10) (v := ?_) rfl (by first | (as_aux_lemma => kernel_rfl) | kernel_rfl) (by first | (as_aux_lemma => kernel_rfl) | kernel_rfl) (by first | (as_aux_lemma => kernel_rfl) | kernel_rfl) (fun _ _ _ h => h) (Or.inl ⟨by first | (as_aux_lemma => kernel_rfl) | kernel_rfl, ?_⟩) hHq2 ?_
          rotate_left
          · (intro w hSw; first | (go_simp; done) | (go_simp; with_reducible rfl))
          (try simp only [Act.put, List.getElem_toArray, List.getElem_cons_succ, List.getElem_cons_zero, List.setIfInBounds_toArray, List.set_cons_zero, List.set_cons_succ])
          refine wpAnyH_ready (rs := [11]) (by first | (as_aux_lemma => kernel_rfl) | kernel_rfl) (by simp) (AllReadyH.cons rfl (fun K hK => ?_) AllReadyH.nil)
          have hH := hHq2
          (go_simp; skip)
          refine hK.out _ _ (by exact ActS.step hH ((Chg.refl [gt] w11).put7 (g := gt) (by simp) (.int .i64 Tt.p.1) (.int .i64 Tt.p.2) (.int .i64 Tt.a.1) (.int .i64 Tt.a.2) (.int .u64 (Tt.y.e : Int)) (.slice Tt.y.a Tt.y.sg.length Tt.y.c) (.int .i64 Tt.y.q)) (fun hm => by simp only [List.mem_singleton] at hm; have := HGT.out; have := HC.out.2; have := HCR.out.size; omega)) (fun hHq3 => ?_)
          clear hK K hH hHq2
          (try simp only [Act.put, List.getElem_toArray, List.getElem_cons_succ, List.getElem_cons_zero, List.setIfInBounds_toArray, List.set_cons_zero, List.set_cons_succ])
          refine wpAnyH_take (i := 12) (v := ?_) rfl (by first | (as_aux_lemma => kernel_rfl) | kernel_rfl) (by first | (as_aux_lemma => kernel_rfl) | kernel_rfl) (by first | (as_aux_lemma => kernel_rfl) | kernel_rfl) (fun _ _ _ h => h) (Or.inl ⟨by first | (as_aux_lemma => kernel_rfl) | kernel_rfl, ?_⟩) hHq3 ?_
          rotate_left
          · (intro w hSw; first | (go_simp; done) | (go_simp; with_reducible rfl))
          (try simp only [Act.put, List.getElem_toArray, List.getElem_cons_succ, List.getElem_cons_zero, List.setIfInBounds_toArray, List.set_cons_zero, List.set_cons_succ])
          refine wpAnyH_done (by first | (as_aux_lemma => kernel_rfl) | kernel_rfl) ?_ _
          have hEnd := hHq3
          have hp7 := HO11.out.1.put7 (.int .i64 Tt.p.1) (.int .i64 Tt.p.2) (.int .i64 Tt.a.1) (.int .i64 Tt.a.2) (.int .u64 (Tt.y.e : Int)) (.slice Tt.y.a Tt.y.sg.length Tt.y.c) (.int .i64 Tt.y.q)
          have hc7 := (Chg.refl [gt] w11).put7 (g := gt) (by simp) (.int .i64 Tt.p.1) (.int .i64 Tt.p.2) (.int .i64 Tt.a.1) (.int .i64 Tt.a.2) (.int .u64 (Tt.y.e : Int)) (.slice Tt.y.a Tt.y.sg.length Tt.y.c) (.int .i64 Tt.y.q)
          have HEZ := Lib.hid hEnd
          generalize ((((((w11.setCell ⟨gt, 0, none⟩ (.int .i64 Tt.p.1)).setCell ⟨gt, 1, none⟩ (.int .i64 Tt.p.2)).setCell ⟨gt, 2, none⟩ (.int .i64 Tt.a.1)).setCell ⟨gt, 3, none⟩ (.int .i64 Tt.a.2)).setCell ⟨gt, 4, none⟩ (.int .u64 (Tt.y.e : Int))).setCell ⟨gt, 5, none⟩ (.slice Tt.y.a Tt.y.sg.length Tt.y.c)).setCell ⟨gt, 6, none⟩ (.int .i64 Tt.y.q) = w12 at hp7 hc7 HEZ ⊢
          have HP7 := Lib.hid (And.intro hp7 hc7)
          have HW12 := Lib.hid (HO11.out.2.chg hc7 (by simpa using HNE.out.1))
          clear hEnd hHeld d0 d1 d2 d3 d4 d5 d6 f0 f1 f2 f3 f4 f5 f6 hp7 hc7
          obtain ⟨c0, c1, c2, c3, _⟩ := HEZ.out
          have s9 := HW12.out
          have a0 := s9.cell 0
          have a1 := s9.cell 1
          simp [EsT.cs] at a0 a1
          clear s9
          have HLS := Lib.hid (fun W' => aLess_any (zb1, zb2) T1.p W')
          go_wp2_with (first | (go_at_call 46; refine (HLS.out _).mono ?_; rintro r w13 ⟨rfl, hc13⟩; have HC13 := Lib.hid hc13; clear hc13) | fail)
          go_meet
          case rel =>
            refine ⟨false, HK1.out, AnJ.mk' (Tt := Tt) (wc := w10) HBB.out.2 HBB.out.1.lt HCR.out.size (HCR.out.trans HC10.out) (HW9.out.chg HC910.out (by simp)) (HF9.out.chg HC910.out (by simp)) (HT9.out.chg HC910.out (by simp)) ⟨HGW.out, Nat.lt_of_lt_of_le HW9.out.lt HC910.out.size⟩ ⟨HGF.out, Nat.lt_of_lt_of_le HF9.out.lt HC910.out.size⟩ ⟨HGT.out, Nat.lt_of_lt_of_le HT9.out.lt HC910.out.size⟩ HNE.out (HY1.out.chg HC910.out (by simp)) (HYF.out.chg HC910.out (by simp)) HX11.out.2 HX11.out.1 (by simp) (by simp) (HP7.out.2.trans (HC13.out.mono (by simp))) (HP7.out.1.chg HC13.out (by simp))⟩
      case rest =>
        rename World => wx
        obtain ⟨k1, hk1, B2, T2, Tt, code, s, gd, rfl, rfl, hV, hB, hcx, hw, hf, ht, hyw, hyf, hyt, hst, hxt, hpp, hgd⟩ := hcut
        have hp9 : T1.p = (pLe T ze).2.p := by rw [← HX5.out.1]; rfl
        rw [hp9] at hgd
        have HAW := Lib.hid (ansW (O := O) HBB.out.1.iv.de.good hpp hgd)
        clear hp9
        have HK := Lib.hid hk1
        have HV2 := Lib.hid (And.intro hV hB)
        have HCX := Lib.hid hcx
        have HWx := Lib.hid hw
        have HFx := Lib.hid hf
        have HTx := Lib.hid ht
        have HYx := Lib.hid (And.intro hyw (And.intro hyf (And.intro hyt (And.intro hst hxt))))
        have HLN2 := Lib.hid (fun W' (h9 : Chg [] wx W') => Learn_v (hV.kept h9) ze HZE.out.1)
        have HLO2 := Lib.hid (fun W' (h9 : Chg [] wx W') => Learn_v (hV.kept h9) O HZE.out.2)
        simp only [EsT.val] at HLN2 HLO2
        clear hV hB hcx hw hf ht hyw hyf hyt hst hxt hpp hgd hk1 c0 c1 c2 c3 HPRZ HACZ HLYZ HLN HLO HZZ
        have s9 := HOO.out wx HCX.out
        have c1 := s9.cell 1
        simp at c1
        clear s9
        go_upto_region 24 with fail
        go_wp2_with fail
        refine (HLN2.out wx (Chg.refl _ _)).mono ?_
        rintro r v4 ⟨Tn, rfl, HX, hc4⟩
        clear c1
        go_upto_region 25 with fail
        have hbo := Own.new v4 116 [.int .i64 Tn.p.1, .int .i64 Tn.p.2, .int .i64 Tn.a.1, .int .i64 Tn.a.2, .int .u64 (Tn.y.e : Int), .slice Tn.y.a Tn.y.sg.length Tn.y.c, .int .i64 Tn.y.q]
        have hbc := (Chg.refl [] v4).alloc (.cells #[.int .i64 Tn.p.1, .int .i64 Tn.p.2, .int .i64 Tn.a.1, .int .i64 Tn.a.2, .int .u64 (Tn.y.e : Int), .slice Tn.y.a Tn.y.sg.length Tn.y.c, .int .i64 Tn.y.q] 116)
        generalize v4.alloc (.cells #[.int .i64 Tn.p.1, .int .i64 Tn.p.2, .int .i64 Tn.a.1, .int .i64 Tn.a.2, .int .u64 (Tn.y.e : Int), .slice Tn.y.a Tn.y.sg.length Tn.y.c, .int .i64 Tn.y.q] 116) = v5 at hbo hbc ⊢
        obtain ⟨gn, hgn⟩ : ∃ x, Hid (v4.heap.size = x) := ⟨_, Lib.hid rfl⟩
        rw [hgn.out] at hbo ⊢
        have HN5 := Lib.hid hbo
        have HD5 := Lib.hid (hc4.trans hbc)
        have HXN : Hid (Tn.x = (pLe T2 ze).2 ∧ LyP v5 (fun x => wx.heap.size ≤ x) Tn.y ∧ LyS Tn.y) := Lib.hid ⟨HX.out.1, HX.out.2.1.chg hbc (by simp), HX.out.2.2⟩
        clear hbo hbc hc4 HX
        go_wp2_with fail
        refine (HLO2.out v5 HD5.out).mono ?_
        rintro r v6 ⟨Tr, rfl, HX, hc6⟩
        go_upto_region 26 with fail
        have hbo := Own.new v6 116 [.int .i64 Tr.p.1, .int .i64 Tr.p.2, .int .i64 Tr.a.1, .int .i64 Tr.a.2, .int .u64 (Tr.y.e : Int), .slice Tr.y.a Tr.y.sg.length Tr.y.c, .int .i64 Tr.y.q]
        have hbc := (Chg.refl [] v6).alloc (.cells #[.int .i64 Tr.p.1, .int .i64 Tr.p.2, .int .i64 Tr.a.1, .int .i64 Tr.a.2, .int .u64 (Tr.y.e : Int), .slice Tr.y.a Tr.y.sg.length Tr.y.c, .int .i64 Tr.y.q] 116)
        generalize v6.alloc (.cells #[.int .i64 Tr.p.1, .int .i64 Tr.p.2, .int .i64 Tr.a.1, .int .i64 Tr.a.2, .int .u64 (Tr.y.e : Int), .slice Tr.y.a Tr.y.sg.length Tr.y.c, .int .i64 Tr.y.q] 116) = v7 at hbo hbc ⊢
        obtain ⟨gr, hgr⟩ : ∃ x, Hid (v6.heap.size = x) := ⟨_, Lib.hid rfl⟩
        rw [hgr.out] at hbo ⊢
        have HR7 := Lib.hid hbo
        have HD57 := Lib.hid (hc6.trans hbc)
        have HD7 := Lib.hid (HD5.out.trans (hc6.trans hbc))
        have HXR : Hid (Tr.x = (pLe T2 O).2 ∧ LyP v7 (fun x => wx.heap.size ≤ x) Tr.y ∧ LyS Tr.y) := Lib.hid ⟨HX.out.1, (HX.out.2.1.chg hbc (by simp)).mono (fun x _ hx => by have := HD5.out.size; omega), HX.out.2.2⟩
        have HN7 := Lib.hid (HN5.out.chg HD57.out (by simp))
        have HW7 := Lib.hid (HWx.out.1.chg HD7.out (by simp))
        have HF7' := Lib.hid (HFx.out.1.chg HD7.out (by simp))
        have HT7 := Lib.hid (HTx.out.1.chg HD7.out (by simp))
        have HIN : Hid (∀ W', Chg [] v7 W' → (LyIn W' W'.heap.size T1.y ∧ SgFit T1.y.sg) ∧ (LyIn W' W'.heap.size Tf.y ∧ SgFit Tf.y.sg) ∧ (LyIn W' W'.heap.size Tt.y ∧ SgFit Tt.y.sg) ∧ (LyIn W' W'.heap.size Tn.y ∧ SgFit Tn.y.sg) ∧ (LyIn W' W'.heap.size Tr.y ∧ SgFit Tr.y.sg)) := Lib.hid (fun W' h9 => by
          have h8 := HD7.out.trans h9
          exact ⟨⟨(HYx.out.1.chg h8 (by simp)).inn, HX5.out.2.2.fit⟩, ⟨(HYx.out.2.1.chg h8 (by simp)).inn, HX7.out.2.2.fit⟩, ⟨(HYx.out.2.2.1.chg h8 (by simp)).inn, HYx.out.2.2.2.1.fit⟩, ⟨(HXN.out.2.1.chg (HD57.out.trans h9) (by simp)).inn, HXN.out.2.2.fit⟩, ⟨(HXR.out.2.1.chg h9 (by simp)).inn, HXR.out.2.2.fit⟩⟩)
        clear hbo hbc hc6 HX HLN2 HLO2
        have HSC := Lib.hid (show (fun W' : World => W'.cell? ⟨gf, 0, none⟩ = some (.int .i64 Tf.p.1) ∧ W'.cell? ⟨gf, 1, none⟩ = some (.int .i64 Tf.p.2) ∧ W'.cell? ⟨gf, 2, none⟩ = some (.int .i64 Tf.a.1) ∧ W'.cell? ⟨gf, 3, none⟩ = some (.int .i64 Tf.a.2) ∧ W'.cell? ⟨gf, 4, none⟩ = some (.int .u64 (Tf.y.e : Int)) ∧ W'.cell? ⟨gf, 5, none⟩ = some (.slice Tf.y.a Tf.y.sg.length Tf.y.c) ∧ W'.cell? ⟨gf, 6, none⟩ = some (.int .i64 Tf.y.q) ∧ W'.cell? ⟨gr, 0, none⟩ = some (.int .i64 Tr.p.1) ∧ W'.cell? ⟨gr, 1, none⟩ = some (.int .i64 Tr.p.2) ∧ W'.cell? ⟨gr, 2, none⟩ = some (.int .i64 Tr.a.1) ∧ W'.cell? ⟨gr, 3, none⟩ = some (.int .i64 Tr.a.2) ∧ W'.cell? ⟨gr, 4, none⟩ = some (.int .u64 (Tr.y.e : Int)) ∧ W'.cell? ⟨gr, 5, none⟩ = some (.slice Tr.y.a Tr.y.sg.length Tr.y.c) ∧ W'.cell? ⟨gr, 6, none⟩ = some (.int .i64 Tr.y.q)) v7 from by
          have k1 := HF7'.out
          have k2 := HR7.out
          refine ⟨?_, ?_, ?_, ?_, ?_, ?_, ?_, ?_, ?_, ?_, ?_, ?_, ?_, ?_⟩ <;> first | (rw [k1.cell]; rfl) | (rw [k2.cell]; rfl))
        have HTX := Lib.hid (fun W' => told_any Tf W')
        have HTY := Lib.hid (fun W' => told_any Tr W')
        have HSM := Lib.hid (fun W' (h9 : Chg [] v7 W') => same12_any Tf Tr W' (HIN.out W' h9).2.1.1 (HIN.out W' h9).2.2.2.2.1 (HIN.out W' h9).2.1.2 (HIN.out W' h9).2.2.2.2.2)
        simp only [EsT.val] at HTX HTY HSM
        go_cut [26] from 26 to 171 (fun v wx => v = .bool (esEq Tf.x Tr.x) ∧ Chg [] v7 wx)
        case first =>
          refine wp_region_held_drew (S := (fun W' : World => W'.cell? ⟨gf, 0, none⟩ = some (.int .i64 Tf.p.1) ∧ W'.cell? ⟨gf, 1, none⟩ = some (.int .i64 Tf.p.2) ∧ W'.cell? ⟨gf, 2, none⟩ = some (.int .i64 Tf.a.1) ∧ W'.cell? ⟨gf, 3, none⟩ = some (.int .i64 Tf.a.2) ∧ W'.cell? ⟨gf, 4, none⟩ = some (.int .u64 (Tf.y.e : Int)) ∧ W'.cell? ⟨gf, 5, none⟩ = some (.slice Tf.y.a Tf.y.sg.length Tf.y.c) ∧ W'.cell? ⟨gf, 6, none⟩ = some (.int .i64 Tf.y.q) ∧ W'.cell? ⟨gr, 0, none⟩ = some (.int .i64 Tr.p.1) ∧ W'.cell? ⟨gr, 1, none⟩ = some (.int .i64 Tr.p.2) ∧ W'.cell? ⟨gr, 2, none⟩ = some (.int .i64 Tr.a.1) ∧ W'.cell? ⟨gr, 3, none⟩ = some (.int .i64 Tr.a.2) ∧ W'.cell? ⟨gr, 4, none⟩ = some (.int .u64 (Tr.y.e : Int)) ∧ W'.cell? ⟨gr, 5, none⟩ = some (.slice Tr.y.a Tr.y.sg.length Tr.y.c) ∧ W'.cell? ⟨gr, 6, none⟩ = some (.int .i64 Tr.y.q))) (by first | (as_aux_lemma => kernel_rfl) | kernel_rfl) (by have h9 := cells14 HSC.out (Chg.refl [] v7).drew; exact h9) (fun hHeld => ?_)
          refine wpAnyH_take (i := 0) (v := ?_) rfl (by first | (as_aux_lemma => kernel_rfl) | kernel_rfl) (by first | (as_aux_lemma => kernel_rfl) | kernel_rfl) (by first | (as_aux_lemma => kernel_rfl) | kernel_rfl) (fun _ _ _ h => h) (Or.inl ⟨by first | (as_aux_lemma => kernel_rfl) | kernel_rfl, ?_⟩) hHeld ?_
          rotate_left
          · (intro w hSw; first | (go_simp; done) | (go_simp; with_reducible rfl))
          (try simp only [Act.put, List.getElem_toArray, List.getElem_cons_succ, List.getElem_cons_zero, List.setIfInBounds_toArray, List.set_cons_zero, List.set_cons_succ])
          refine wpAnyH_take (i := 2) (v := ?_) rfl (by first | (as_aux_lemma => kernel_rfl) | kernel_rfl) (by first | (as_aux_lemma => kernel_rfl) | kernel_rfl) (by first | (as_aux_lemma => kernel_rfl) | kernel_rfl) (fun _ _ _ h => h) (Or.inl ⟨by first | (as_aux_lemma => kernel_rfl) | kernel_rfl, ?_⟩) hHeld ?_
          rotate_left
          · (intro w hSw; first | (go_simp; done) | (go_simp; with_reducible rfl))
          (try simp only [Act.put, List.getElem_toArray, List.getElem_cons_succ, List.getElem_cons_zero, List.setIfInBounds_toArray, List.set_cons_zero, List.set_cons_succ])
          refine wpAnyH_ready (rs := [1]) (by first | (as_aux_lemma => kernel_rfl) | kernel_rfl) (by simp) (AllReadyH.cons rfl (fun K hK => ?_) AllReadyH.nil)
          have hH := hHeld
          (go_simp; go_at_call 54; refine (HTX.out _).mono ?_; rintro r wa ⟨rfl, hca⟩)
          refine hK.out _ _ (by exact cells14 hH hca) (fun hHq1 => ?_)
          clear hK K hH 
          have HCA := Lib.hid ((Chg.refl [] v7).drew.trans hca)
          (try simp only [Act.put, List.getElem_toArray, List.getElem_cons_succ, List.getElem_cons_zero, List.setIfInBounds_toArray, List.set_cons_zero, List.set_cons_succ])
          refine wpAnyH_ready (rs := [3]) (by first | (as_aux_lemma => kernel_rfl) | kernel_rfl) (by simp) (AllReadyH.cons rfl (fun K hK => ?_) AllReadyH.nil)
          have hH := hHq1
          (go_simp; go_at_call 54; refine (HTY.out _).mono ?_; rintro r wb ⟨rfl, hcb⟩)
          refine hK.out _ _ (by exact cells14 hH hcb) (fun hHq2 => ?_)
          clear hK K hH hHq1
          have HCB := Lib.hid (HCA.out.trans hcb)
          (try simp only [Act.put, List.getElem_toArray, List.getElem_cons_succ, List.getElem_cons_zero, List.setIfInBounds_toArray, List.set_cons_zero, List.set_cons_succ])
          refine wpAnyH_ready (rs := [4]) (by first | (as_aux_lemma => kernel_rfl) | kernel_rfl) (by simp) (AllReadyH.cons rfl (fun K hK => ?_) AllReadyH.nil)
          have hH := hHq2
          (go_simp; go_at_call 53; refine (HSM.out _ HCB.out).mono ?_; rintro r wd ⟨rfl, hcd⟩)
          refine hK.out _ _ (by exact cells14 hH hcd) (fun hHq3 => ?_)
          clear hK K hH hHq2
          have HCD := Lib.hid (HCB.out.trans hcd)
          (try simp only [Act.put, List.getElem_toArray, List.getElem_cons_succ, List.getElem_cons_zero, List.setIfInBounds_toArray, List.set_cons_zero, List.set_cons_succ])
          refine wpAnyH_take (i := 5) (v := ?_) rfl (by first | (as_aux_lemma => kernel_rfl) | kernel_rfl) (by first | (as_aux_lemma => kernel_rfl) | kernel_rfl) (by first | (as_aux_lemma => kernel_rfl) | kernel_rfl) (fun _ _ _ h => h) (Or.inl ⟨by first | (as_aux_lemma => kernel_rfl) | kernel_rfl, ?_⟩) hHq3 ?_
          rotate_left
          · (intro w hSw; first | (go_simp; done) | (go_simp; with_reducible rfl))
          (try simp only [Act.put, List.getElem_toArray, List.getElem_cons_succ, List.getElem_cons_zero, List.setIfInBounds_toArray, List.set_cons_zero, List.set_cons_succ])
          refine wpAnyH_done (by first | (as_aux_lemma => kernel_rfl) | kernel_rfl) ?_ _
          have hEnd := hHq3
          (go_wp2_with fail; go_meet; (case rel => exact ⟨rfl, HCD.out⟩))
        case' rest =>
          rename World => v8
          obtain ⟨rfl, hcut⟩ := hcut
          have Hv8 := Lib.hid hcut
          clear hcut HSC HTX HTY HSM
        obtain ⟨st, hst⟩ : ∃ x, Hid (esEq Tf.x Tr.x = x) := ⟨_, Lib.hid rfl⟩
        rw [hst.out]
        obtain ⟨gc, hgc⟩ : ∃ x, Hid ((pLe T ze).1 = x) := ⟨_, Lib.hid rfl⟩
        rw [hgc.out]
        have HSTY : Hid (T2 = T ∨ (pLe T2 O).2 = (pLe T O).2 → st = true) := Lib.hid (fun h => by
          rw [← hst.out, esEq_iff, HX7.out.1, HXR.out.1]
          rcases h with h | h
          · rw [h]
          · exact h.symm)
        have HCT : Hid (∀ W', Chg [] v8 W' → Chg [] W W') := Lib.hid (fun W' h9 => ((HCX.out.trans HD7.out).trans Hv8.out).trans h9)
        have HEND : Hid (∀ W', Chg [] W W' → Below w.heap.size w W') := Lib.hid (fun W' h9 => (HC.out.1.trans h9).low)
        rcases pLe_code T ze with ⟨g1, g2, g3⟩ | ⟨g1, g2⟩
        · rw [hgc.out] at g1
          subst g1
          by_cases hc1 : code = 1
          · have HT2 := Lib.hid (HAW.out.b' hgc.out hc1)
            subst hc1
            clear g2 g3
            have hst1 := HSTY.out (.inl HT2.out)
            subst hst1
            go_upto_region 30 with fail
            have HSC := Lib.hid (show (fun W' : World => W'.cell? ⟨gw, 0, none⟩ = some (.int .i64 T1.p.1) ∧ W'.cell? ⟨gw, 1, none⟩ = some (.int .i64 T1.p.2) ∧ W'.cell? ⟨gw, 2, none⟩ = some (.int .i64 T1.a.1) ∧ W'.cell? ⟨gw, 3, none⟩ = some (.int .i64 T1.a.2) ∧ W'.cell? ⟨gw, 4, none⟩ = some (.int .u64 (T1.y.e : Int)) ∧ W'.cell? ⟨gw, 5, none⟩ = some (.slice T1.y.a T1.y.sg.length T1.y.c) ∧ W'.cell? ⟨gw, 6, none⟩ = some (.int .i64 T1.y.q) ∧ W'.cell? ⟨gn, 0, none⟩ = some (.int .i64 Tn.p.1) ∧ W'.cell? ⟨gn, 1, none⟩ = some (.int .i64 Tn.p.2) ∧ W'.cell? ⟨gn, 2, none⟩ = some (.int .i64 Tn.a.1) ∧ W'.cell? ⟨gn, 3, none⟩ = some (.int .i64 Tn.a.2) ∧ W'.cell? ⟨gn, 4, none⟩ = some (.int .u64 (Tn.y.e : Int)) ∧ W'.cell? ⟨gn, 5, none⟩ = some (.slice Tn.y.a Tn.y.sg.length Tn.y.c) ∧ W'.cell? ⟨gn, 6, none⟩ = some (.int .i64 Tn.y.q)) v8 from by
              have k1 := (HW7.out.chg Hv8.out (by simp))
              have k2 := (HN7.out.chg Hv8.out (by simp))
              refine ⟨?_, ?_, ?_, ?_, ?_, ?_, ?_, ?_, ?_, ?_, ?_, ?_, ?_, ?_⟩ <;> first | (rw [k1.cell]; rfl) | (rw [k2.cell]; rfl))
            have HTX := Lib.hid (fun W' => told_any T1 W')
            have HTY := Lib.hid (fun W' => told_any Tn W')
            have HSM := Lib.hid (fun W' (h9 : Chg [] v8 W') => same12_any T1 Tn W' (HIN.out W' (Hv8.out.trans h9)).1.1 (HIN.out W' (Hv8.out.trans h9)).2.2.2.1.1 (HIN.out W' (Hv8.out.trans h9)).1.2 (HIN.out W' (Hv8.out.trans h9)).2.2.2.1.2)
            simp only [EsT.val] at HTX HTY HSM
            go_cut [27] from 27 to 185 (fun v wx => v = .bool (esEq T1.x Tn.x) ∧ Chg [] v8 wx)
            case first =>
              refine wp_region_held_drew (S := (fun W' : World => W'.cell? ⟨gw, 0, none⟩ = some (.int .i64 T1.p.1) ∧ W'.cell? ⟨gw, 1, none⟩ = some (.int .i64 T1.p.2) ∧ W'.cell? ⟨gw, 2, none⟩ = some (.int .i64 T1.a.1) ∧ W'.cell? ⟨gw, 3, none⟩ = some (.int .i64 T1.a.2) ∧ W'.cell? ⟨gw, 4, none⟩ = some (.int .u64 (T1.y.e : Int)) ∧ W'.cell? ⟨gw, 5, none⟩ = some (.slice T1.y.a T1.y.sg.length T1.y.c) ∧ W'.cell? ⟨gw, 6, none⟩ = some (.int .i64 T1.y.q) ∧ W'.cell? ⟨gn, 0, none⟩ = some (.int .i64 Tn.p.1) ∧ W'.cell? ⟨gn, 1, none⟩ = some (.int .i64 Tn.p.2) ∧ W'.cell? ⟨gn, 2, none⟩ = some (.int .i64 Tn.a.1) ∧ W'.cell? ⟨gn, 3, none⟩ = some (.int .i64 Tn.a.2) ∧ W'.cell? ⟨gn, 4, none⟩ = some (.int .u64 (Tn.y.e : Int)) ∧ W'.cell? ⟨gn, 5, none⟩ = some (.slice Tn.y.a Tn.y.sg.length Tn.y.c) ∧ W'.cell? ⟨gn, 6, none⟩ = some (.int .i64 Tn.y.q))) (by first | (as_aux_lemma => kernel_rfl) | kernel_rfl) (by have h9 := cells14 HSC.out (Chg.refl [] v8).drew; exact h9) (fun hHeld => ?_)
              refine wpAnyH_take (i := 0) (v := ?_) rfl (by first | (as_aux_lemma => kernel_rfl) | kernel_rfl) (by first | (as_aux_lemma => kernel_rfl) | kernel_rfl) (by first | (as_aux_lemma => kernel_rfl) | kernel_rfl) (fun _ _ _ h => h) (Or.inl ⟨by first | (as_aux_lemma => kernel_rfl) | kernel_rfl, ?_⟩) hHeld ?_
              rotate_left
              · (intro w hSw; first | (go_simp; done) | (go_simp; with_reducible rfl))
              (try simp only [Act.put, List.getElem_toArray, List.getElem_cons_succ, List.getElem_cons_zero, List.setIfInBounds_toArray, List.set_cons_zero, List.set_cons_succ])
              refine wpAnyH_take (i := 2) (v := ?_) rfl (by first | (as_aux_lemma => kernel_rfl) | kernel_rfl) (by first | (as_aux_lemma => kernel_rfl) | kernel_rfl) (by first | (as_aux_lemma => kernel_rfl) | kernel_rfl) (fun _ _ _ h => h) (Or.inl ⟨by first | (as_aux_lemma => kernel_rfl) | kernel_rfl, ?_⟩) hHeld ?_
              rotate_left
              · (intro w hSw; first | (go_simp; done) | (go_simp; with_reducible rfl))
              (try simp only [Act.put, List.getElem_toArray, List.getElem_cons_succ, List.getElem_cons_zero, List.setIfInBounds_toArray, List.set_cons_zero, List.set_cons_succ])
              refine wpAnyH_ready (rs := [1]) (by first | (as_aux_lemma => kernel_rfl) | kernel_rfl) (by simp) (AllReadyH.cons rfl (fun K hK => ?_) AllReadyH.nil)
              have hH := hHeld
              (go_simp; go_at_call 54; refine (HTX.out _).mono ?_; rintro r wa ⟨rfl, hca⟩)
              refine hK.out _ _ (by exact cells14 hH hca) (fun hHq1 => ?_)
              clear hK K hH 
              have HCA := Lib.hid ((Chg.refl [] v8).drew.trans hca)
              (try simp only [Act.put, List.getElem_toArray, List.getElem_cons_succ, List.getElem_cons_zero, List.setIfInBounds_toArray, List.set_cons_zero, List.set_cons_succ])
              refine wpAnyH_ready (rs := [3]) (by first | (as_aux_lemma => kernel_rfl) | kernel_rfl) (by simp) (AllReadyH.cons rfl (fun K hK => ?_) AllReadyH.nil)
              have hH := hHq1
              (go_simp; go_at_call 54; refine (HTY.out _).mono ?_; rintro r wb ⟨rfl, hcb⟩)
              refine hK.out _ _ (by exact cells14 hH hcb) (fun hHq2 => ?_)
              clear hK K hH hHq1
              have HCB := Lib.hid (HCA.out.trans hcb)
              (try simp only [Act.put, List.getElem_toArray, List.getElem_cons_succ, List.getElem_cons_zero, List.setIfInBounds_toArray, List.set_cons_zero, List.set_cons_succ])
              refine wpAnyH_ready (rs := [4]) (by first | (as_aux_lemma => kernel_rfl) | kernel_rfl) (by simp) (AllReadyH.cons rfl (fun K hK => ?_) AllReadyH.nil)
              have hH := hHq2
              (go_simp; go_at_call 53; refine (HSM.out _ HCB.out).mono ?_; rintro r wd ⟨rfl, hcd⟩)
              refine hK.out _ _ (by exact cells14 hH hcd) (fun hHq3 => ?_)
              clear hK K hH hHq2
              have HCD := Lib.hid (HCB.out.trans hcd)
              (try simp only [Act.put, List.getElem_toArray, List.getElem_cons_succ, List.getElem_cons_zero, List.setIfInBounds_toArray, List.set_cons_zero, List.set_cons_succ])
              refine wpAnyH_take (i := 5) (v := ?_) rfl (by first | (as_aux_lemma => kernel_rfl) | kernel_rfl) (by first | (as_aux_lemma => kernel_rfl) | kernel_rfl) (by first | (as_aux_lemma => kernel_rfl) | kernel_rfl) (fun _ _ _ h => h) (Or.inl ⟨by first | (as_aux_lemma => kernel_rfl) | kernel_rfl, ?_⟩) hHq3 ?_
              rotate_left
              · (intro w hSw; first | (go_simp; done) | (go_simp; with_reducible rfl))
              (try simp only [Act.put, List.getElem_toArray, List.getElem_cons_succ, List.getElem_cons_zero, List.setIfInBounds_toArray, List.set_cons_zero, List.set_cons_succ])
              refine wpAnyH_done (by first | (as_aux_lemma => kernel_rfl) | kernel_rfl) ?_ _
              have hEnd := hHq3
              (go_wp2_with fail; go_meet; (case rel => exact ⟨rfl, HCD.out⟩))
            case' rest =>
              rename World => v9
              obtain ⟨rfl, hcut⟩ := hcut
              have Hv9 := Lib.hid hcut
              clear hcut HSC HTX HTY HSM
            have hsm : esEq T1.x Tn.x = true := by rw [esEq_iff, HX5.out.1, HXN.out.1, HT2.out]
            rw [hsm]
            go_wp2_with (first | (go_at_call 35; refine (HAL.out _).mono ?_; rintro e va ⟨rfl, hca⟩; have HCA := Lib.hid (HEND.out _ (HCT.out _ (Hv9.out.trans hca))); clear hca) | fail)
            go_ret
            exact ⟨rfl, HCA.out⟩
          · have hcc := HAW.out.c hgc.out hc1
            have HCC := Lib.hid hcc
            obtain ⟨hcode, -, -, hoth⟩ := hcc
            have hc1b : (code == 1) = false := by rw [beq_eq_false_iff_ne]; exact hc1
            have HO9 : Hid (O = ze ∨ st = true) := Lib.hid (by
              by_cases h : O = ze
              · exact .inl h
              · exact .inr (HSTY.out (.inr (hoth h))))
            clear g2 g3 hc1 hoth
            go_upto_region 32 with fail
            have HSC := Lib.hid (show (fun W' : World => W'.cell? ⟨gt, 0, none⟩ = some (.int .i64 Tt.p.1) ∧ W'.cell? ⟨gt, 1, none⟩ = some (.int .i64 Tt.p.2) ∧ W'.cell? ⟨gt, 2, none⟩ = some (.int .i64 Tt.a.1) ∧ W'.cell? ⟨gt, 3, none⟩ = some (.int .i64 Tt.a.2) ∧ W'.cell? ⟨gt, 4, none⟩ = some (.int .u64 (Tt.y.e : Int)) ∧ W'.cell? ⟨gt, 5, none⟩ = some (.slice Tt.y.a Tt.y.sg.length Tt.y.c) ∧ W'.cell? ⟨gt, 6, none⟩ = some (.int .i64 Tt.y.q) ∧ W'.cell? ⟨gn, 0, none⟩ = some (.int .i64 Tn.p.1) ∧ W'.cell? ⟨gn, 1, none⟩ = some (.int .i64 Tn.p.2) ∧ W'.cell? ⟨gn, 2, none⟩ = some (.int .i64 Tn.a.1) ∧ W'.cell? ⟨gn, 3, none⟩ = some (.int .i64 Tn.a.2) ∧ W'.cell? ⟨gn, 4, none⟩ = some (.int .u64 (Tn.y.e : Int)) ∧ W'.cell? ⟨gn, 5, none⟩ = some (.slice Tn.y.a Tn.y.sg.length Tn.y.c) ∧ W'.cell? ⟨gn, 6, none⟩ = some (.int .i64 Tn.y.q)) v8 from by
              have k1 := (HT7.out.chg Hv8.out (by simp))
              have k2 := (HN7.out.chg Hv8.out (by simp))
              refine ⟨?_, ?_, ?_, ?_, ?_, ?_, ?_, ?_, ?_, ?_, ?_, ?_, ?_, ?_⟩ <;> first | (rw [k1.cell]; rfl) | (rw [k2.cell]; rfl))
            have HTX := Lib.hid (fun W' => told_any Tt W')
            have HTY := Lib.hid (fun W' => told_any Tn W')
            have HSM := Lib.hid (fun W' (h9 : Chg [] v8 W') => same12_any Tt Tn W' (HIN.out W' (Hv8.out.trans h9)).2.2.1.1 (HIN.out W' (Hv8.out.trans h9)).2.2.2.1.1 (HIN.out W' (Hv8.out.trans h9)).2.2.1.2 (HIN.out W' (Hv8.out.trans h9)).2.2.2.1.2)
            simp only [EsT.val] at HTX HTY HSM
            go_cut [28] from 28 to 203 (fun v wx => v = .bool (esEq Tt.x Tn.x) ∧ Chg [] v8 wx)
            case first =>
              refine wp_region_held_drew (S := (fun W' : World => W'.cell? ⟨gt, 0, none⟩ = some (.int .i64 Tt.p.1) ∧ W'.cell? ⟨gt, 1, none⟩ = some (.int .i64 Tt.p.2) ∧ W'.cell? ⟨gt, 2, none⟩ = some (.int .i64 Tt.a.1) ∧ W'.cell? ⟨gt, 3, none⟩ = some (.int .i64 Tt.a.2) ∧ W'.cell? ⟨gt, 4, none⟩ = some (.int .u64 (Tt.y.e : Int)) ∧ W'.cell? ⟨gt, 5, none⟩ = some (.slice Tt.y.a Tt.y.sg.length Tt.y.c) ∧ W'.cell? ⟨gt, 6, none⟩ = some (.int .i64 Tt.y.q) ∧ W'.cell? ⟨gn, 0, none⟩ = some (.int .i64 Tn.p.1) ∧ W'.cell? ⟨gn, 1, none⟩ = some (.int .i64 Tn.p.2) ∧ W'.cell? ⟨gn, 2, none⟩ = some (.int .i64 Tn.a.1) ∧ W'.cell? ⟨gn, 3, none⟩ = some (.int .i64 Tn.a.2) ∧ W'.cell? ⟨gn, 4, none⟩ = some (.int .u64 (Tn.y.e : Int)) ∧ W'.cell? ⟨gn, 5, none⟩ = some (.slice Tn.y.a Tn.y.sg.length Tn.y.c) ∧ W'.cell? ⟨gn, 6, none⟩ = some (.int .i64 Tn.y.q))) (by first | (as_aux_lemma => kernel_rfl) | kernel_rfl) (by have h9 := cells14 HSC.out (Chg.refl [] v8).drew; exact h9) (fun hHeld => ?_)
              refine wpAnyH_take (i := 0) (v := ?_) rfl (by first | (as_aux_lemma => kernel_rfl) | kernel_rfl) (by first | (as_aux_lemma => kernel_rfl) | kernel_rfl) (by first | (as_aux_lemma => kernel_rfl) | kernel_rfl) (fun _ _ _ h => h) (Or.inl ⟨by first | (as_aux_lemma => kernel_rfl) | kernel_rfl, ?_⟩) hHeld ?_
              rotate_left
              · (intro w hSw; first | (go_simp; done) | (go_simp; with_reducible rfl))
              (try simp only [Act.put, List.getElem_toArray, List.getElem_cons_succ, List.getElem_cons_zero, List.setIfInBounds_toArray, List.set_cons_zero, List.set_cons_succ])
              refine wpAnyH_take (i := 2) (v := ?_) rfl (by first | (as_aux_lemma => kernel_rfl) | kernel_rfl) (by first | (as_aux_lemma => kernel_rfl) | kernel_rfl) (by first | (as_aux_lemma => kernel_rfl) | kernel_rfl) (fun _ _ _ h => h) (Or.inl ⟨by first | (as_aux_lemma => kernel_rfl) | kernel_rfl, ?_⟩) hHeld ?_
              rotate_left
              · (intro w hSw; first | (go_simp; done) | (go_simp; with_reducible rfl))
              (try simp only [Act.put, List.getElem_toArray, List.getElem_cons_succ, List.getElem_cons_zero, List.setIfInBounds_toArray, List.set_cons_zero, List.set_cons_succ])
              refine wpAnyH_ready (rs := [1]) (by first | (as_aux_lemma => kernel_rfl) | kernel_rfl) (by simp) (AllReadyH.cons rfl (fun K hK => ?_) AllReadyH.nil)
              have hH := hHeld
              (go_simp; go_at_call 54; refine (HTX.out _).mono ?_; rintro r wa ⟨rfl, hca⟩)
              refine hK.out _ _ (by exact cells14 hH hca) (fun hHq1 => ?_)
              clear hK K hH 
              have HCA := Lib.hid ((Chg.refl [] v8).drew.trans hca)
              (try simp only [Act.put, List.getElem_toArray, List.getElem_cons_succ, List.getElem_cons_zero, List.setIfInBounds_toArray, List.set_cons_zero, List.set_cons_succ])
              refine wpAnyH_ready (rs := [3]) (by first | (as_aux_lemma => kernel_rfl) | kernel_rfl) (by simp) (AllReadyH.cons rfl (fun K hK => ?_) AllReadyH.nil)
              have hH := hHq1
              (go_simp; go_at_call 54; refine (HTY.out _).mono ?_; rintro r wb ⟨rfl, hcb⟩)
              refine hK.out _ _ (by exact cells14 hH hcb) (fun hHq2 => ?_)
              clear hK K hH hHq1
              have HCB := Lib.hid (HCA.out.trans hcb)
              (try simp only [Act.put, List.getElem_toArray, List.getElem_cons_succ, List.getElem_cons_zero, List.setIfInBounds_toArray, List.set_cons_zero, List.set_cons_succ])
              refine wpAnyH_ready (rs := [4]) (by first | (as_aux_lemma => kernel_rfl) | kernel_rfl) (by simp) (AllReadyH.cons rfl (fun K hK => ?_) AllReadyH.nil)
              have hH := hHq2
              (go_simp; go_at_call 53; refine (HSM.out _ HCB.out).mono ?_; rintro r wd ⟨rfl, hcd⟩)
              refine hK.out _ _ (by exact cells14 hH hcd) (fun hHq3 => ?_)
              clear hK K hH hHq2
              have HCD := Lib.hid (HCB.out.trans hcd)
              (try simp only [Act.put, List.getElem_toArray, List.getElem_cons_succ, List.getElem_cons_zero, List.setIfInBounds_toArray, List.set_cons_zero, List.set_cons_succ])
              refine wpAnyH_take (i := 5) (v := ?_) rfl (by first | (as_aux_lemma => kernel_rfl) | kernel_rfl) (by first | (as_aux_lemma => kernel_rfl) | kernel_rfl) (by first | (as_aux_lemma => kernel_rfl) | kernel_rfl) (fun _ _ _ h => h) (Or.inl ⟨by first | (as_aux_lemma => kernel_rfl) | kernel_rfl, ?_⟩) hHq3 ?_
              rotate_left
              · (intro w hSw; first | (go_simp; done) | (go_simp; with_reducible rfl))
              (try simp only [Act.put, List.getElem_toArray, List.getElem_cons_succ, List.getElem_cons_zero, List.setIfInBounds_toArray, List.set_cons_zero, List.set_cons_succ])
              refine wpAnyH_done (by first | (as_aux_lemma => kernel_rfl) | kernel_rfl) ?_ _
              have hEnd := hHq3
              (go_wp2_with fail; go_meet; (case rel => exact ⟨rfl, HCD.out⟩))
            case' rest =>
              rename World => v9
              obtain ⟨rfl, hcut⟩ := hcut
              have Hv9 := Lib.hid hcut
              clear hcut HSC HTX HTY HSM
            have hsm : esEq Tt.x Tn.x = true := by rw [esEq_iff, HYx.out.2.2.2.2, HXN.out.1]; exact HCC.out.2.1
            rw [hsm]
            have HC9 := Lib.hid (HCT.out _ Hv9.out)
            have s9 := HOO.out v9 HC9.out
            have c0 := s9.cell 0
            have c1 := s9.cell 1
            have c2 := s9.cell 2
            have c3 := s9.cell 3
            simp at c0 c1 c2 c3
            clear s9
            clear c0 c2 c3
            have hOe : ((O : Int) != (ze : Int)) = false ∨ ((O : Int) != (ze : Int)) = true ∧ st = true := by
              by_cases h : O = ze
              · exact .inl (by rw [h]; simp)
              · exact .inr ⟨by rw [bne_iff_ne]; omega, HO9.out.resolve_left h⟩
            have hgd9 := Lib.hid HCC.out.2.2.1
            rcases hcode with rfl | rfl
            · have hgd1 : gd = true := by rw [hgd9.out]; rfl
              subst hgd1
              have HDD := Lib.hid (HAW.out.d hgc.out rfl)
              have hp1 : Tn.p = (zb1, zb2) := by have := HDD.out.1; rw [← HXN.out.1] at this; exact this
              have HP6 : Hid (Tn.p.1 = zb1 ∧ Tn.p.2 = zb2) := Lib.hid (by rw [hp1]; exact ⟨rfl, rfl⟩)
              have HTA : Hid (Tn.a = (pLe T2 ze).2.a ∧ T1.a = (pLe T ze).2.a) := Lib.hid ⟨by rw [← HXN.out.1]; rfl, by rw [← HX5.out.1]; rfl⟩
              have HS9 := Lib.hid (HOO.out v9 HC9.out).actS
              have HN9 := Lib.hid ((HN7.out.chg Hv8.out (by simp)).chg Hv9.out (by simp))
              have HW9' := Lib.hid ((HW7.out.chg Hv8.out (by simp)).chg Hv9.out (by simp))
              clear hc1b hsm hp1
              go_upto_region 33 with fail
              go_cut [229] from 204 to 229 (fun v wx => v = .bool false ∧ wx = v9)
              case first =>
                rcases hOe with h9 | ⟨h9, h8⟩
                all_goals (try subst h8)
                all_goals
                  go_wp2_with fail
                  go_meet
                  (case rel => exact ⟨rfl, rfl⟩)
              case' rest =>
                obtain ⟨rfl, hw9⟩ := hcut
                subst hw9
              rename World => v9
              clear hOe c1
              go_upto_region 36 with fail
              have hkk := HK.out
              go_cut [6] from 6 to 257 (fun v wx => v = .bool true ∧ Chg [] v9 wx)
              case first => as_aux_lemma =>
                cases k1 with
                | true =>
                  have HP16 : Hid (Tn.a.1 = T1.a.1 ∧ Tn.a.2 = T1.a.2) := Lib.hid (by
                    have h := (HDD.out.2.1 rfl).1
                    rw [← HTA.out.1, ← HTA.out.2] at h
                    rw [h]
                    exact ⟨rfl, rfl⟩)
                  have HP22 : Hid (¬ (Tn.a.1 = zb1 ∧ Tn.a.2 = zb2)) := Lib.hid (by
                    have h := (HDD.out.2.1 rfl).2
                    rw [← HTA.out.1] at h
                    intro h'
                    exact h (Prod.ext h'.1 h'.2))
                  have HSC := Lib.hid (show (fun W' : World => W'.cell? ⟨gn, 0, none⟩ = some (.int .i64 Tn.p.1) ∧ W'.cell? ⟨gn, 1, none⟩ = some (.int .i64 Tn.p.2) ∧ W'.cell? ⟨gn, 2, none⟩ = some (.int .i64 Tn.a.1) ∧ W'.cell? ⟨gn, 3, none⟩ = some (.int .i64 Tn.a.2) ∧ W'.cell? ⟨gw, 2, none⟩ = some (.int .i64 T1.a.1) ∧ W'.cell? ⟨gw, 3, none⟩ = some (.int .i64 T1.a.2) ∧ W'.cell? ⟨w.heap.size, 0, none⟩ = some (.int .i64 zk) ∧ W'.cell? ⟨w.heap.size, 2, none⟩ = some (.int .i64 zb1) ∧ W'.cell? ⟨w.heap.size, 3, none⟩ = some (.int .i64 zb2)) v9 from by
                    have k1 := HN9.out
                    have k2 := HW9'.out
                    have k3 := HS9.out
                    exact ⟨by rw [k1.cell]; rfl, by rw [k1.cell]; rfl, by rw [k1.cell]; rfl, by rw [k1.cell]; rfl, by rw [k2.cell]; rfl, by rw [k2.cell]; rfl, k3.1, k3.2.2.1, k3.2.2.2.1⟩)
                  refine wp_region_held_drew (S := (fun W' : World => W'.cell? ⟨gn, 0, none⟩ = some (.int .i64 Tn.p.1) ∧ W'.cell? ⟨gn, 1, none⟩ = some (.int .i64 Tn.p.2) ∧ W'.cell? ⟨gn, 2, none⟩ = some (.int .i64 Tn.a.1) ∧ W'.cell? ⟨gn, 3, none⟩ = some (.int .i64 Tn.a.2) ∧ W'.cell? ⟨gw, 2, none⟩ = some (.int .i64 T1.a.1) ∧ W'.cell? ⟨gw, 3, none⟩ = some (.int .i64 T1.a.2) ∧ W'.cell? ⟨w.heap.size, 0, none⟩ = some (.int .i64 zk) ∧ W'.cell? ⟨w.heap.size, 2, none⟩ = some (.int .i64 zb1) ∧ W'.cell? ⟨w.heap.size, 3, none⟩ = some (.int .i64 zb2))) (by first | (as_aux_lemma => kernel_rfl) | kernel_rfl) HSC.out (fun hHeld => ?_)
                  refine wpAnyH_ready (rs := [0]) (by first | (as_aux_lemma => kernel_rfl) | kernel_rfl) (by simp) (AllReadyH.cons rfl (fun K hK => ?_) AllReadyH.nil)
                  have hH := hHeld
                  (go_simp; go_at_call 35; refine (HAL.out _).mono ?_; rintro e va ⟨rfl, hca⟩)
                  refine hK.out _ _ (by exact ⟨hca.cell hH.1 (by simp), hca.cell hH.2.1 (by simp), hca.cell hH.2.2.1 (by simp), hca.cell hH.2.2.2.1 (by simp), hca.cell hH.2.2.2.2.1 (by simp), hca.cell hH.2.2.2.2.2.1 (by simp), hca.cell hH.2.2.2.2.2.2.1 (by simp), hca.cell hH.2.2.2.2.2.2.2.1 (by simp), hca.cell hH.2.2.2.2.2.2.2.2 (by simp)⟩) (fun hHq1 => ?_)
                  clear hK K hH 
                  have HCA := Lib.hid ((Chg.refl [] v9).drew.trans hca)
                  (try simp only [Act.put, List.getElem_toArray, List.getElem_cons_succ, List.getElem_cons_zero, List.setIfInBounds_toArray, List.set_cons_zero, List.set_cons_succ])
                  refine wpAnyH_take (i := 1) (v := ?_) rfl (by first | (as_aux_lemma => kernel_rfl) | kernel_rfl) (by first | (as_aux_lemma => kernel_rfl) | kernel_rfl) (by first | (as_aux_lemma => kernel_rfl) | kernel_rfl) (fun _ _ _ h => h) (Or.inl ⟨by first | (as_aux_lemma => kernel_rfl) | kernel_rfl, ?_⟩) hHq1 ?_
                  rotate_left
                  · (intro w hSw; first | (go_simp; done) | (go_simp; with_reducible rfl))
                  (try simp only [Act.put, List.getElem_toArray, List.getElem_cons_succ, List.getElem_cons_zero, List.setIfInBounds_toArray, List.set_cons_zero, List.set_cons_succ])
                  refine wpAnyH_take (i := 2) (v := ?_) rfl (by first | (as_aux_lemma => kernel_rfl) | kernel_rfl) (by first | (as_aux_lemma => kernel_rfl) | kernel_rfl) (by first | (as_aux_lemma => kernel_rfl) | kernel_rfl) (fun _ _ _ h => h) (Or.inl ⟨by first | (as_aux_lemma => kernel_rfl) | kernel_rfl, ?_⟩) hHq1 ?_
                  rotate_left
                  · (intro w hSw; first | (go_simp; done) | (go_simp; with_reducible rfl))
                  (try simp only [Act.put, List.getElem_toArray, List.getElem_cons_succ, List.getElem_cons_zero, List.setIfInBounds_toArray, List.set_cons_zero, List.set_cons_succ])
                  refine wpAnyH_take (i := 3) (v := ?_) rfl (by first | (as_aux_lemma => kernel_rfl) | kernel_rfl) (by first | (as_aux_lemma => kernel_rfl) | kernel_rfl) (by first | (as_aux_lemma => kernel_rfl) | kernel_rfl) (fun _ _ _ h => h) (Or.inl ⟨by first | (as_aux_lemma => kernel_rfl) | kernel_rfl, ?_⟩) hHq1 ?_
                  rotate_left
                  · (intro w hSw; first | (go_simp; done) | (go_simp; with_reducible rfl))
                  (try simp only [Act.put, List.getElem_toArray, List.getElem_cons_succ, List.getElem_cons_zero, List.setIfInBounds_toArray, List.set_cons_zero, List.set_cons_succ])
                  refine wpAnyH_take (i := 4) (v := ?_) rfl (by first | (as_aux_lemma => kernel_rfl) | kernel_rfl) (by first | (as_aux_lemma => kernel_rfl) | kernel_rfl) (by first | (as_aux_lemma => kernel_rfl) | kernel_rfl) (fun _ _ _ h => h) (Or.inl ⟨by first | (as_aux_lemma => kernel_rfl) | kernel_rfl, ?_⟩) hHq1 ?_
                  rotate_left
                  · (intro w hSw; first | (go_simp; done) | (go_simp; with_reducible rfl))
                  (try simp only [Act.put, List.getElem_toArray, List.getElem_cons_succ, List.getElem_cons_zero, List.setIfInBounds_toArray, List.set_cons_zero, List.set_cons_succ])
                  refine wpAnyH_take (i := 5) (v := ?_) rfl (by first | (as_aux_lemma => kernel_rfl) | kernel_rfl) (by first | (as_aux_lemma => kernel_rfl) | kernel_rfl) (by first | (as_aux_lemma => kernel_rfl) | kernel_rfl) (fun _ _ _ h => h) (Or.inl ⟨by first | (as_aux_lemma => kernel_rfl) | kernel_rfl, ?_⟩) hHq1 ?_
                  rotate_left
                  · (intro w hSw; first | (go_simp; done) | (go_simp; with_reducible rfl))
                  (try simp only [Act.put, List.getElem_toArray, List.getElem_cons_succ, List.getElem_cons_zero, List.setIfInBounds_toArray, List.set_cons_zero, List.set_cons_succ])
                  refine wpAnyH_take (i := 6) (v := (.bool true)) rfl (by first | (as_aux_lemma => kernel_rfl) | kernel_rfl) (by first | (as_aux_lemma => kernel_rfl) | kernel_rfl) (by first | (as_aux_lemma => kernel_rfl) | kernel_rfl) (fun _ _ _ h => h) (Or.inl ⟨by first | (as_aux_lemma => kernel_rfl) | kernel_rfl, ?_⟩) hHq1 ?_
                  · (intro w hSw; first | (go_simp; done) | (go_simp; rw [if_pos HP6.out.1, if_pos HP6.out.2]) | (go_simp; exact fun a b => HP6.out ⟨a, b⟩))
                  (try simp only [Act.put, List.getElem_toArray, List.getElem_cons_succ, List.getElem_cons_zero, List.setIfInBounds_toArray, List.set_cons_zero, List.set_cons_succ])
                  refine wpAnyH_take (i := 7) (v := ?_) rfl (by first | (as_aux_lemma => kernel_rfl) | kernel_rfl) (by first | (as_aux_lemma => kernel_rfl) | kernel_rfl) (by first | (as_aux_lemma => kernel_rfl) | kernel_rfl) (fun _ _ _ h => h) (Or.inl ⟨by first | (as_aux_lemma => kernel_rfl) | kernel_rfl, ?_⟩) hHq1 ?_
                  rotate_left
                  · (intro w hSw; first | (go_simp; done) | (go_simp; with_reducible rfl))
                  (try simp only [Act.put, List.getElem_toArray, List.getElem_cons_succ, List.getElem_cons_zero, List.setIfInBounds_toArray, List.set_cons_zero, List.set_cons_succ])
                  refine wpAnyH_take (i := 8) (v := ?_) rfl (by first | (as_aux_lemma => kernel_rfl) | kernel_rfl) (by first | (as_aux_lemma => kernel_rfl) | kernel_rfl) (by first | (as_aux_lemma => kernel_rfl) | kernel_rfl) (fun _ _ _ h => h) (Or.inl ⟨by first | (as_aux_lemma => kernel_rfl) | kernel_rfl, ?_⟩) hHq1 ?_
                  rotate_left
                  · (intro w hSw; first | (go_simp; done) | (go_simp; with_reducible rfl))
                  (try simp only [Act.put, List.getElem_toArray, List.getElem_cons_succ, List.getElem_cons_zero, List.setIfInBounds_toArray, List.set_cons_zero, List.set_cons_succ])
                  refine wpAnyH_take (i := 9) (v := ?_) rfl (by first | (as_aux_lemma => kernel_rfl) | kernel_rfl) (by first | (as_aux_lemma => kernel_rfl) | kernel_rfl) (by first | (as_aux_lemma => kernel_rfl) | kernel_rfl) (fun _ _ _ h => h) (Or.inl ⟨by first | (as_aux_lemma => kernel_rfl) | kernel_rfl, ?_⟩) hHq1 ?_
                  rotate_left
                  · (intro w hSw; first | (go_simp; done) | (go_simp; with_reducible rfl))
                  (try simp only [Act.put, List.getElem_toArray, List.getElem_cons_succ, List.getElem_cons_zero, List.setIfInBounds_toArray, List.set_cons_zero, List.set_cons_succ])
                  refine wpAnyH_take (i := 10) (v := ?_) rfl (by first | (as_aux_lemma => kernel_rfl) | kernel_rfl) (by first | (as_aux_lemma => kernel_rfl) | kernel_rfl) (by first | (as_aux_lemma => kernel_rfl) | kernel_rfl) (fun _ _ _ h => h) (Or.inl ⟨by first | (as_aux_lemma => kernel_rfl) | kernel_rfl, ?_⟩) hHq1 ?_
                  rotate_left
                  · (intro w hSw; first | (go_simp; done) | (go_simp; with_reducible rfl))
                  (try simp only [Act.put, List.getElem_toArray, List.getElem_cons_succ, List.getElem_cons_zero, List.setIfInBounds_toArray, List.set_cons_zero, List.set_cons_succ])
                  refine wpAnyH_take (i := 11) (v := ?_) rfl (by first | (as_aux_lemma => kernel_rfl) | kernel_rfl) (by first | (as_aux_lemma => kernel_rfl) | kernel_rfl) (by first | (as_aux_lemma => kernel_rfl) | kernel_rfl) (fun _ _ _ h => h) (Or.inl ⟨by first | (as_aux_lemma => kernel_rfl) | kernel_rfl, ?_⟩) hHq1 ?_
                  rotate_left
                  · (intro w hSw; first | (go_simp; done) | (go_simp; with_reducible rfl))
                  (try simp only [Act.put, List.getElem_toArray, List.getElem_cons_succ, List.getElem_cons_zero, List.setIfInBounds_toArray, List.set_cons_zero, List.set_cons_succ])
                  refine wpAnyH_take (i := 12) (v := ?_) rfl (by first | (as_aux_lemma => kernel_rfl) | kernel_rfl) (by first | (as_aux_lemma => kernel_rfl) | kernel_rfl) (by first | (as_aux_lemma => kernel_rfl) | kernel_rfl) (fun _ _ _ h => h) (Or.inl ⟨by first | (as_aux_lemma => kernel_rfl) | kernel_rfl, ?_⟩) hHq1 ?_
                  rotate_left
                  · (intro w hSw; first | (go_simp; done) | (go_simp; with_reducible rfl))
                  (try simp only [Act.put, List.getElem_toArray, List.getElem_cons_succ, List.getElem_cons_zero, List.setIfInBounds_toArray, List.set_cons_zero, List.set_cons_succ])
                  refine wpAnyH_take (i := 13) (v := ?_) rfl (by first | (as_aux_lemma => kernel_rfl) | kernel_rfl) (by first | (as_aux_lemma => kernel_rfl) | kernel_rfl) (by first | (as_aux_lemma => kernel_rfl) | kernel_rfl) (fun _ _ _ h => h) (Or.inl ⟨by first | (as_aux_lemma => kernel_rfl) | kernel_rfl, ?_⟩) hHq1 ?_
                  rotate_left
                  · (intro w hSw; first | (go_simp; done) | (go_simp; with_reducible rfl))
                  (try simp only [Act.put, List.getElem_toArray, List.getElem_cons_succ, List.getElem_cons_zero, List.setIfInBounds_toArray, List.set_cons_zero, List.set_cons_succ])
                  refine wpAnyH_take (i := 14) (v := ?_) rfl (by first | (as_aux_lemma => kernel_rfl) | kernel_rfl) (by first | (as_aux_lemma => kernel_rfl) | kernel_rfl) (by first | (as_aux_lemma => kernel_rfl) | kernel_rfl) (fun _ _ _ h => h) (Or.inl ⟨by first | (as_aux_lemma => kernel_rfl) | kernel_rfl, ?_⟩) hHq1 ?_
                  rotate_left
                  · (intro w hSw; first | (go_simp; done) | (go_simp; with_reducible rfl))
                  (try simp only [Act.put, List.getElem_toArray, List.getElem_cons_succ, List.getElem_cons_zero, List.setIfInBounds_toArray, List.set_cons_zero, List.set_cons_succ])
                  refine wpAnyH_take (i := 15) (v := ?_) rfl (by first | (as_aux_lemma => kernel_rfl) | kernel_rfl) (by first | (as_aux_lemma => kernel_rfl) | kernel_rfl) (by first | (as_aux_lemma => kernel_rfl) | kernel_rfl) (fun _ _ _ h => h) (Or.inl ⟨by first | (as_aux_lemma => kernel_rfl) | kernel_rfl, ?_⟩) hHq1 ?_
                  rotate_left
                  · (intro w hSw; first | (go_simp; done) | (go_simp; with_reducible rfl))
                  (try simp only [Act.put, List.getElem_toArray, List.getElem_cons_succ, List.getElem_cons_zero, List.setIfInBounds_toArray, List.set_cons_zero, List.set_cons_succ])
                  refine wpAnyH_take (i := 16) (v := (.bool true)) rfl (by first | (as_aux_lemma => kernel_rfl) | kernel_rfl) (by first | (as_aux_lemma => kernel_rfl) | kernel_rfl) (by first | (as_aux_lemma => kernel_rfl) | kernel_rfl) (fun _ _ _ h => h) (Or.inl ⟨by first | (as_aux_lemma => kernel_rfl) | kernel_rfl, ?_⟩) hHq1 ?_
                  · (intro w hSw; first | (go_simp; done) | (go_simp; rw [if_pos HP16.out.1, if_pos HP16.out.2]) | (go_simp; exact fun a b => HP16.out ⟨a, b⟩))
                  (try simp only [Act.put, List.getElem_toArray, List.getElem_cons_succ, List.getElem_cons_zero, List.setIfInBounds_toArray, List.set_cons_zero, List.set_cons_succ])
                  refine wpAnyH_take (i := 17) (v := ?_) rfl (by first | (as_aux_lemma => kernel_rfl) | kernel_rfl) (by first | (as_aux_lemma => kernel_rfl) | kernel_rfl) (by first | (as_aux_lemma => kernel_rfl) | kernel_rfl) (fun _ _ _ h => h) (Or.inl ⟨by first | (as_aux_lemma => kernel_rfl) | kernel_rfl, ?_⟩) hHq1 ?_
                  rotate_left
                  · (intro w hSw; first | (go_simp; done) | (go_simp; with_reducible rfl))
                  (try simp only [Act.put, List.getElem_toArray, List.getElem_cons_succ, List.getElem_cons_zero, List.setIfInBounds_toArray, List.set_cons_zero, List.set_cons_succ])
                  refine wpAnyH_take (i := 18) (v := ?_) rfl (by first | (as_aux_lemma => kernel_rfl) | kernel_rfl) (by first | (as_aux_lemma => kernel_rfl) | kernel_rfl) (by first | (as_aux_lemma => kernel_rfl) | kernel_rfl) (fun _ _ _ h => h) (Or.inl ⟨by first | (as_aux_lemma => kernel_rfl) | kernel_rfl, ?_⟩) hHq1 ?_
                  rotate_left
                  · (intro w hSw; first | (go_simp; done) | (go_simp; with_reducible rfl))
                  (try simp only [Act.put, List.getElem_toArray, List.getElem_cons_succ, List.getElem_cons_zero, List.setIfInBounds_toArray, List.set_cons_zero, List.set_cons_succ])
                  refine wpAnyH_take (i := 19) (v := ?_) rfl (by first | (as_aux_lemma => kernel_rfl) | kernel_rfl) (by first | (as_aux_lemma => kernel_rfl) | kernel_rfl) (by first | (as_aux_lemma => kernel_rfl) | kernel_rfl) (fun _ _ _ h => h) (Or.inl ⟨by first | (as_aux_lemma => kernel_rfl) | kernel_rfl, ?_⟩) hHq1 ?_
                  rotate_left
                  · (intro w hSw; first | (go_simp; done) | (go_simp; with_reducible rfl))
                  (try simp only [Act.put, List.getElem_toArray, List.getElem_cons_succ, List.getElem_cons_zero, List.setIfInBounds_toArray, List.set_cons_zero, List.set_cons_succ])
                  refine wpAnyH_take (i := 20) (v := ?_) rfl (by first | (as_aux_lemma => kernel_rfl) | kernel_rfl) (by first | (as_aux_lemma => kernel_rfl) | kernel_rfl) (by first | (as_aux_lemma => kernel_rfl) | kernel_rfl) (fun _ _ _ h => h) (Or.inl ⟨by first | (as_aux_lemma => kernel_rfl) | kernel_rfl, ?_⟩) hHq1 ?_
                  rotate_left
                  · (intro w hSw; first | (go_simp; done) | (go_simp; with_reducible rfl))
                  (try simp only [Act.put, List.getElem_toArray, List.getElem_cons_succ, List.getElem_cons_zero, List.setIfInBounds_toArray, List.set_cons_zero, List.set_cons_succ])
                  refine wpAnyH_take (i := 21) (v := ?_) rfl (by first | (as_aux_lemma => kernel_rfl) | kernel_rfl) (by first | (as_aux_lemma => kernel_rfl) | kernel_rfl) (by first | (as_aux_lemma => kernel_rfl) | kernel_rfl) (fun _ _ _ h => h) (Or.inl ⟨by first | (as_aux_lemma => kernel_rfl) | kernel_rfl, ?_⟩) hHq1 ?_
                  rotate_left
                  · (intro w hSw; first | (go_simp; done) | (go_simp; with_reducible rfl))
                  (try simp only [Act.put, List.getElem_toArray, List.getElem_cons_succ, List.getElem_cons_zero, List.setIfInBounds_toArray, List.set_cons_zero, List.set_cons_succ])
                  refine wpAnyH_take (i := 22) (v := (.bool true)) rfl (by first | (as_aux_lemma => kernel_rfl) | kernel_rfl) (by first | (as_aux_lemma => kernel_rfl) | kernel_rfl) (by first | (as_aux_lemma => kernel_rfl) | kernel_rfl) (fun _ _ _ h => h) (Or.inl ⟨by first | (as_aux_lemma => kernel_rfl) | kernel_rfl, ?_⟩) hHq1 ?_
                  · (intro w hSw; first | (go_simp; done) | (go_simp; rw [if_pos HP22.out.1, if_pos HP22.out.2]) | (go_simp; exact fun a b => HP22.out ⟨a, b⟩))
                  (try simp only [Act.put, List.getElem_toArray, List.getElem_cons_succ, List.getElem_cons_zero, List.setIfInBounds_toArray, List.set_cons_zero, List.set_cons_succ])
                  refine wpAnyH_take (i := 23) (v := ?_) rfl (by first | (as_aux_lemma => kernel_rfl) | kernel_rfl) (by first | (as_aux_lemma => kernel_rfl) | kernel_rfl) (by first | (as_aux_lemma => kernel_rfl) | kernel_rfl) (fun _ _ _ h => h) (Or.inl ⟨by first | (as_aux_lemma => kernel_rfl) | kernel_rfl, ?_⟩) hHq1 ?_
                  rotate_left
                  · (intro w hSw; first | (go_simp; done) | (go_simp; with_reducible rfl))
                  (try simp only [Act.put, List.getElem_toArray, List.getElem_cons_succ, List.getElem_cons_zero, List.setIfInBounds_toArray, List.set_cons_zero, List.set_cons_succ])
                  refine wpAnyH_take (i := 24) (v := ?_) rfl (by first | (as_aux_lemma => kernel_rfl) | kernel_rfl) (by first | (as_aux_lemma => kernel_rfl) | kernel_rfl) (by first | (as_aux_lemma => kernel_rfl) | kernel_rfl) (fun _ _ _ h => h) (Or.inl ⟨by first | (as_aux_lemma => kernel_rfl) | kernel_rfl, ?_⟩) hHq1 ?_
                  rotate_left
                  · (intro w hSw; first | (go_simp; done) | (go_simp; with_reducible rfl))
                  (try simp only [Act.put, List.getElem_toArray, List.getElem_cons_succ, List.getElem_cons_zero, List.setIfInBounds_toArray, List.set_cons_zero, List.set_cons_succ])
                  refine wpAnyH_take (i := 25) (v := ?_) rfl (by first | (as_aux_lemma => kernel_rfl) | kernel_rfl) (by first | (as_aux_lemma => kernel_rfl) | kernel_rfl) (by first | (as_aux_lemma => kernel_rfl) | kernel_rfl) (fun _ _ _ h => h) (Or.inl ⟨by first | (as_aux_lemma => kernel_rfl) | kernel_rfl, ?_⟩) hHq1 ?_
                  rotate_left
                  · (intro w hSw; first | (go_simp; done) | (go_simp; with_reducible rfl))
                  (try simp only [Act.put, List.getElem_toArray, List.getElem_cons_succ, List.getElem_cons_zero, List.setIfInBounds_toArray, List.set_cons_zero, List.set_cons_succ])
                  refine wpAnyH_take (i := 26) (v := ?_) rfl (by first | (as_aux_lemma => kernel_rfl) | kernel_rfl) (by first | (as_aux_lemma => kernel_rfl) | kernel_rfl) (by first | (as_aux_lemma => kernel_rfl) | kernel_rfl) (fun _ _ _ h => h) (Or.inl ⟨by first | (as_aux_lemma => kernel_rfl) | kernel_rfl, ?_⟩) hHq1 ?_
                  rotate_left
                  · (intro w hSw; first | (go_simp; done) | (go_simp; with_reducible rfl))
                  (try simp only [Act.put, List.getElem_toArray, List.getElem_cons_succ, List.getElem_cons_zero, List.setIfInBounds_toArray, List.set_cons_zero, List.set_cons_succ])
                  refine wpAnyH_done (by first | (as_aux_lemma => kernel_rfl) | kernel_rfl) ?_ _
                  have hEnd := hHq1
                  go_wp2_with fail
                  go_meet
                  case rel => exact ⟨rfl, HCA.out⟩
                | false =>
                  have HNA : Hid (Tn.a = (zb1, zb2)) := Lib.hid (by rw [HTA.out.1]; exact HDD.out.2.2 rfl)
                  by_cases h16 : T1.a = (zb1, zb2)
                  · have HP16 : Hid (Tn.a.1 = T1.a.1 ∧ Tn.a.2 = T1.a.2) := Lib.hid (by rw [HNA.out, h16]; exact ⟨rfl, rfl⟩)
                    have HP22 : Hid (Tn.a.1 = zb1 ∧ Tn.a.2 = zb2) := Lib.hid (by rw [HNA.out]; exact ⟨rfl, rfl⟩)
                    clear h16
                    have HSC := Lib.hid (show (fun W' : World => W'.cell? ⟨gn, 0, none⟩ = some (.int .i64 Tn.p.1) ∧ W'.cell? ⟨gn, 1, none⟩ = some (.int .i64 Tn.p.2) ∧ W'.cell? ⟨gn, 2, none⟩ = some (.int .i64 Tn.a.1) ∧ W'.cell? ⟨gn, 3, none⟩ = some (.int .i64 Tn.a.2) ∧ W'.cell? ⟨gw, 2, none⟩ = some (.int .i64 T1.a.1) ∧ W'.cell? ⟨gw, 3, none⟩ = some (.int .i64 T1.a.2) ∧ W'.cell? ⟨w.heap.size, 0, none⟩ = some (.int .i64 zk) ∧ W'.cell? ⟨w.heap.size, 2, none⟩ = some (.int .i64 zb1) ∧ W'.cell? ⟨w.heap.size, 3, none⟩ = some (.int .i64 zb2)) v9 from by
                      have k1 := HN9.out
                      have k2 := HW9'.out
                      have k3 := HS9.out
                      exact ⟨by rw [k1.cell]; rfl, by rw [k1.cell]; rfl, by rw [k1.cell]; rfl, by rw [k1.cell]; rfl, by rw [k2.cell]; rfl, by rw [k2.cell]; rfl, k3.1, k3.2.2.1, k3.2.2.2.1⟩)
                    refine wp_region_held_drew (S := (fun W' : World => W'.cell? ⟨gn, 0, none⟩ = some (.int .i64 Tn.p.1) ∧ W'.cell? ⟨gn, 1, none⟩ = some (.int .i64 Tn.p.2) ∧ W'.cell? ⟨gn, 2, none⟩ = some (.int .i64 Tn.a.1) ∧ W'.cell? ⟨gn, 3, none⟩ = some (.int .i64 Tn.a.2) ∧ W'.cell? ⟨gw, 2, none⟩ = some (.int .i64 T1.a.1) ∧ W'.cell? ⟨gw, 3, none⟩ = some (.int .i64 T1.a.2) ∧ W'.cell? ⟨w.heap.size, 0, none⟩ = some (.int .i64 zk) ∧ W'.cell? ⟨w.heap.size, 2, none⟩ = some (.int .i64 zb1) ∧ W'.cell? ⟨w.heap.size, 3, none⟩ = some (.int .i64 zb2))) (by first | (as_aux_lemma => kernel_rfl) | kernel_rfl) HSC.out (fun hHeld => ?_)
                    refine wpAnyH_ready (rs := [0]) (by first | (as_aux_lemma => kernel_rfl) | kernel_rfl) (by simp) (AllReadyH.cons rfl (fun K hK => ?_) AllReadyH.nil)
                    have hH := hHeld
                    (go_simp; go_at_call 35; refine (HAL.out _).mono ?_; rintro e va ⟨rfl, hca⟩)
                    refine hK.out _ _ (by exact ⟨hca.cell hH.1 (by simp), hca.cell hH.2.1 (by simp), hca.cell hH.2.2.1 (by simp), hca.cell hH.2.2.2.1 (by simp), hca.cell hH.2.2.2.2.1 (by simp), hca.cell hH.2.2.2.2.2.1 (by simp), hca.cell hH.2.2.2.2.2.2.1 (by simp), hca.cell hH.2.2.2.2.2.2.2.1 (by simp), hca.cell hH.2.2.2.2.2.2.2.2 (by simp)⟩) (fun hHq1 => ?_)
                    clear hK K hH 
                    have HCA := Lib.hid ((Chg.refl [] v9).drew.trans hca)
                    (try simp only [Act.put, List.getElem_toArray, List.getElem_cons_succ, List.getElem_cons_zero, List.setIfInBounds_toArray, List.set_cons_zero, List.set_cons_succ])
                    refine wpAnyH_take (i := 1) (v := ?_) rfl (by first | (as_aux_lemma => kernel_rfl) | kernel_rfl) (by first | (as_aux_lemma => kernel_rfl) | kernel_rfl) (by first | (as_aux_lemma => kernel_rfl) | kernel_rfl) (fun _ _ _ h => h) (Or.inl ⟨by first | (as_aux_lemma => kernel_rfl) | kernel_rfl, ?_⟩) hHq1 ?_
                    rotate_left
                    · (intro w hSw; first | (go_simp; done) | (go_simp; with_reducible rfl))
                    (try simp only [Act.put, List.getElem_toArray, List.getElem_cons_succ, List.getElem_cons_zero, List.setIfInBounds_toArray, List.set_cons_zero, List.set_cons_succ])
                    refine wpAnyH_take (i := 2) (v := ?_) rfl (by first | (as_aux_lemma => kernel_rfl) | kernel_rfl) (by first | (as_aux_lemma => kernel_rfl) | kernel_rfl) (by first | (as_aux_lemma => kernel_rfl) | kernel_rfl) (fun _ _ _ h => h) (Or.inl ⟨by first | (as_aux_lemma => kernel_rfl) | kernel_rfl, ?_⟩) hHq1 ?_
                    rotate_left
                    · (intro w hSw; first | (go_simp; done) | (go_simp; with_reducible rfl))
                    (try simp only [Act.put, List.getElem_toArray, List.getElem_cons_succ, List.getElem_cons_zero, List.setIfInBounds_toArray, List.set_cons_zero, List.set_cons_succ])
                    refine wpAnyH_take (i := 3) (v := ?_) rfl (by first | (as_aux_lemma => kernel_rfl) | kernel_rfl) (by first | (as_aux_lemma => kernel_rfl) | kernel_rfl) (by first | (as_aux_lemma => kernel_rfl) | kernel_rfl) (fun _ _ _ h => h) (Or.inl ⟨by first | (as_aux_lemma => kernel_rfl) | kernel_rfl, ?_⟩) hHq1 ?_
                    rotate_left
                    · (intro w hSw; first | (go_simp; done) | (go_simp; with_reducible rfl))
                    (try simp only [Act.put, List.getElem_toArray, List.getElem_cons_succ, List.getElem_cons_zero, List.setIfInBounds_toArray, List.set_cons_zero, List.set_cons_succ])
                    refine wpAnyH_take (i := 4) (v := ?_) rfl (by first | (as_aux_lemma => kernel_rfl) | kernel_rfl) (by first | (as_aux_lemma => kernel_rfl) | kernel_rfl) (by first | (as_aux_lemma => kernel_rfl) | kernel_rfl) (fun _ _ _ h => h) (Or.inl ⟨by first | (as_aux_lemma => kernel_rfl) | kernel_rfl, ?_⟩) hHq1 ?_
                    rotate_left
                    · (intro w hSw; first | (go_simp; done) | (go_simp; with_reducible rfl))
                    (try simp only [Act.put, List.getElem_toArray, List.getElem_cons_succ, List.getElem_cons_zero, List.setIfInBounds_toArray, List.set_cons_zero, List.set_cons_succ])
                    refine wpAnyH_take (i := 5) (v := ?_) rfl (by first | (as_aux_lemma => kernel_rfl) | kernel_rfl) (by first | (as_aux_lemma => kernel_rfl) | kernel_rfl) (by first | (as_aux_lemma => kernel_rfl) | kernel_rfl) (fun _ _ _ h => h) (Or.inl ⟨by first | (as_aux_lemma => kernel_rfl) | kernel_rfl, ?_⟩) hHq1 ?_
                    rotate_left
                    · (intro w hSw; first | (go_simp; done) | (go_simp; with_reducible rfl))
                    (try simp only [Act.put, List.getElem_toArray, List.getElem_cons_succ, List.getElem_cons_zero, List.setIfInBounds_toArray, List.set_cons_zero, List.set_cons_succ])
                    refine wpAnyH_take (i := 6) (v := (.bool true)) rfl (by first | (as_aux_lemma => kernel_rfl) | kernel_rfl) (by first | (as_aux_lemma => kernel_rfl) | kernel_rfl) (by first | (as_aux_lemma => kernel_rfl) | kernel_rfl) (fun _ _ _ h => h) (Or.inl ⟨by first | (as_aux_lemma => kernel_rfl) | kernel_rfl, ?_⟩) hHq1 ?_
                    · (intro w hSw; first | (go_simp; done) | (go_simp; rw [if_pos HP6.out.1, if_pos HP6.out.2]) | (go_simp; exact fun a b => HP6.out ⟨a, b⟩))
                    (try simp only [Act.put, List.getElem_toArray, List.getElem_cons_succ, List.getElem_cons_zero, List.setIfInBounds_toArray, List.set_cons_zero, List.set_cons_succ])
                    refine wpAnyH_take (i := 7) (v := ?_) rfl (by first | (as_aux_lemma => kernel_rfl) | kernel_rfl) (by first | (as_aux_lemma => kernel_rfl) | kernel_rfl) (by first | (as_aux_lemma => kernel_rfl) | kernel_rfl) (fun _ _ _ h => h) (Or.inl ⟨by first | (as_aux_lemma => kernel_rfl) | kernel_rfl, ?_⟩) hHq1 ?_
                    rotate_left
                    · (intro w hSw; first | (go_simp; done) | (go_simp; with_reducible rfl))
                    (try simp only [Act.put, List.getElem_toArray, List.getElem_cons_succ, List.getElem_cons_zero, List.setIfInBounds_toArray, List.set_cons_zero, List.set_cons_succ])
                    refine wpAnyH_take (i := 8) (v := ?_) rfl (by first | (as_aux_lemma => kernel_rfl) | kernel_rfl) (by first | (as_aux_lemma => kernel_rfl) | kernel_rfl) (by first | (as_aux_lemma => kernel_rfl) | kernel_rfl) (fun _ _ _ h => h) (Or.inl ⟨by first | (as_aux_lemma => kernel_rfl) | kernel_rfl, ?_⟩) hHq1 ?_
                    rotate_left
                    · (intro w hSw; first | (go_simp; done) | (go_simp; with_reducible rfl))
                    (try simp only [Act.put, List.getElem_toArray, List.getElem_cons_succ, List.getElem_cons_zero, List.setIfInBounds_toArray, List.set_cons_zero, List.set_cons_succ])
                    refine wpAnyH_take (i := 9) (v := ?_) rfl (by first | (as_aux_lemma => kernel_rfl) | kernel_rfl) (by first | (as_aux_lemma => kernel_rfl) | kernel_rfl) (by first | (as_aux_lemma => kernel_rfl) | kernel_rfl) (fun _ _ _ h => h) (Or.inl ⟨by first | (as_aux_lemma => kernel_rfl) | kernel_rfl, ?_⟩) hHq1 ?_
                    rotate_left
                    · (intro w hSw; first | (go_simp; done) | (go_simp; with_reducible rfl))
                    (try simp only [Act.put, List.getElem_toArray, List.getElem_cons_succ, List.getElem_cons_zero, List.setIfInBounds_toArray, List.set_cons_zero, List.set_cons_succ])
                    refine wpAnyH_take (i := 10) (v := ?_) rfl (by first | (as_aux_lemma => kernel_rfl) | kernel_rfl) (by first | (as_aux_lemma => kernel_rfl) | kernel_rfl) (by first | (as_aux_lemma => kernel_rfl) | kernel_rfl) (fun _ _ _ h => h) (Or.inl ⟨by first | (as_aux_lemma => kernel_rfl) | kernel_rfl, ?_⟩) hHq1 ?_
                    rotate_left
                    · (intro w hSw; first | (go_simp; done) | (go_simp; with_reducible rfl))
                    (try simp only [Act.put, List.getElem_toArray, List.getElem_cons_succ, List.getElem_cons_zero, List.setIfInBounds_toArray, List.set_cons_zero, List.set_cons_succ])
                    refine wpAnyH_take (i := 11) (v := ?_) rfl (by first | (as_aux_lemma => kernel_rfl) | kernel_rfl) (by first | (as_aux_lemma => kernel_rfl) | kernel_rfl) (by first | (as_aux_lemma => kernel_rfl) | kernel_rfl) (fun _ _ _ h => h) (Or.inl ⟨by first | (as_aux_lemma => kernel_rfl) | kernel_rfl, ?_⟩) hHq1 ?_
                    rotate_left
                    · (intro w hSw; first | (go_simp; done) | (go_simp; with_reducible rfl))
                    (try simp only [Act.put, List.getElem_toArray, List.getElem_cons_succ, List.getElem_cons_zero, List.setIfInBounds_toArray, List.set_cons_zero, List.set_cons_succ])
                    refine wpAnyH_take (i := 12) (v := ?_) rfl (by first | (as_aux_lemma => kernel_rfl) | kernel_rfl) (by first | (as_aux_lemma => kernel_rfl) | kernel_rfl) (by first | (as_aux_lemma => kernel_rfl) | kernel_rfl) (fun _ _ _ h => h) (Or.inl ⟨by first | (as_aux_lemma => kernel_rfl) | kernel_rfl, ?_⟩) hHq1 ?_
                    rotate_left
                    · (intro w hSw; first | (go_simp; done) | (go_simp; with_reducible rfl))
                    (try simp only [Act.put, List.getElem_toArray, List.getElem_cons_succ, List.getElem_cons_zero, List.setIfInBounds_toArray, List.set_cons_zero, List.set_cons_succ])
                    refine wpAnyH_take (i := 13) (v := ?_) rfl (by first | (as_aux_lemma => kernel_rfl) | kernel_rfl) (by first | (as_aux_lemma => kernel_rfl) | kernel_rfl) (by first | (as_aux_lemma => kernel_rfl) | kernel_rfl) (fun _ _ _ h => h) (Or.inl ⟨by first | (as_aux_lemma => kernel_rfl) | kernel_rfl, ?_⟩) hHq1 ?_
                    rotate_left
                    · (intro w hSw; first | (go_simp; done) | (go_simp; with_reducible rfl))
                    (try simp only [Act.put, List.getElem_toArray, List.getElem_cons_succ, List.getElem_cons_zero, List.setIfInBounds_toArray, List.set_cons_zero, List.set_cons_succ])
                    refine wpAnyH_take (i := 14) (v := ?_) rfl (by first | (as_aux_lemma => kernel_rfl) | kernel_rfl) (by first | (as_aux_lemma => kernel_rfl) | kernel_rfl) (by first | (as_aux_lemma => kernel_rfl) | kernel_rfl) (fun _ _ _ h => h) (Or.inl ⟨by first | (as_aux_lemma => kernel_rfl) | kernel_rfl, ?_⟩) hHq1 ?_
                    rotate_left
                    · (intro w hSw; first | (go_simp; done) | (go_simp; with_reducible rfl))
                    (try simp only [Act.put, List.getElem_toArray, List.getElem_cons_succ, List.getElem_cons_zero, List.setIfInBounds_toArray, List.set_cons_zero, List.set_cons_succ])
                    refine wpAnyH_take (i := 15) (v := ?_) rfl (by first | (as_aux_lemma => kernel_rfl) | kernel_rfl) (by first | (as_aux_lemma => kernel_rfl) | kernel_rfl) (by first | (as_aux_lemma => kernel_rfl) | kernel_rfl) (fun _ _ _ h => h) (Or.inl ⟨by first | (as_aux_lemma => kernel_rfl) | kernel_rfl, ?_⟩) hHq1 ?_
                    rotate_left
                    · (intro w hSw; first | (go_simp; done) | (go_simp; with_reducible rfl))
                    (try simp only [Act.put, List.getElem_toArray, List.getElem_cons_succ, List.getElem_cons_zero, List.setIfInBounds_toArray, List.set_cons_zero, List.set_cons_succ])
                    refine wpAnyH_take (i := 16) (v := (.bool true)) rfl (by first | (as_aux_lemma => kernel_rfl) | kernel_rfl) (by first | (as_aux_lemma => kernel_rfl) | kernel_rfl) (by first | (as_aux_lemma => kernel_rfl) | kernel_rfl) (fun _ _ _ h => h) (Or.inl ⟨by first | (as_aux_lemma => kernel_rfl) | kernel_rfl, ?_⟩) hHq1 ?_
                    · (intro w hSw; first | (go_simp; done) | (go_simp; rw [if_pos HP16.out.1, if_pos HP16.out.2]) | (go_simp; exact fun a b => HP16.out ⟨a, b⟩))
                    (try simp only [Act.put, List.getElem_toArray, List.getElem_cons_succ, List.getElem_cons_zero, List.setIfInBounds_toArray, List.set_cons_zero, List.set_cons_succ])
                    refine wpAnyH_take (i := 17) (v := ?_) rfl (by first | (as_aux_lemma => kernel_rfl) | kernel_rfl) (by first | (as_aux_lemma => kernel_rfl) | kernel_rfl) (by first | (as_aux_lemma => kernel_rfl) | kernel_rfl) (fun _ _ _ h => h) (Or.inl ⟨by first | (as_aux_lemma => kernel_rfl) | kernel_rfl, ?_⟩) hHq1 ?_
                    rotate_left
                    · (intro w hSw; first | (go_simp; done) | (go_simp; with_reducible rfl))
                    (try simp only [Act.put, List.getElem_toArray, List.getElem_cons_succ, List.getElem_cons_zero, List.setIfInBounds_toArray, List.set_cons_zero, List.set_cons_succ])
                    refine wpAnyH_take (i := 18) (v := ?_) rfl (by first | (as_aux_lemma => kernel_rfl) | kernel_rfl) (by first | (as_aux_lemma => kernel_rfl) | kernel_rfl) (by first | (as_aux_lemma => kernel_rfl) | kernel_rfl) (fun _ _ _ h => h) (Or.inl ⟨by first | (as_aux_lemma => kernel_rfl) | kernel_rfl, ?_⟩) hHq1 ?_
                    rotate_left
                    · (intro w hSw; first | (go_simp; done) | (go_simp; with_reducible rfl))
                    (try simp only [Act.put, List.getElem_toArray, List.getElem_cons_succ, List.getElem_cons_zero, List.setIfInBounds_toArray, List.set_cons_zero, List.set_cons_succ])
                    refine wpAnyH_take (i := 19) (v := ?_) rfl (by first | (as_aux_lemma => kernel_rfl) | kernel_rfl) (by first | (as_aux_lemma => kernel_rfl) | kernel_rfl) (by first | (as_aux_lemma => kernel_rfl) | kernel_rfl) (fun _ _ _ h => h) (Or.inl ⟨by first | (as_aux_lemma => kernel_rfl) | kernel_rfl, ?_⟩) hHq1 ?_
                    rotate_left
                    · (intro w hSw; first | (go_simp; done) | (go_simp; with_reducible rfl))
                    (try simp only [Act.put, List.getElem_toArray, List.getElem_cons_succ, List.getElem_cons_zero, List.setIfInBounds_toArray, List.set_cons_zero, List.set_cons_succ])
                    refine wpAnyH_take (i := 20) (v := ?_) rfl (by first | (as_aux_lemma => kernel_rfl) | kernel_rfl) (by first | (as_aux_lemma => kernel_rfl) | kernel_rfl) (by first | (as_aux_lemma => kernel_rfl) | kernel_rfl) (fun _ _ _ h => h) (Or.inl ⟨by first | (as_aux_lemma => kernel_rfl) | kernel_rfl, ?_⟩) hHq1 ?_
                    rotate_left
                    · (intro w hSw; first | (go_simp; done) | (go_simp; with_reducible rfl))
                    (try simp only [Act.put, List.getElem_toArray, List.getElem_cons_succ, List.getElem_cons_zero, List.setIfInBounds_toArray, List.set_cons_zero, List.set_cons_succ])
                    refine wpAnyH_take (i := 21) (v := ?_) rfl (by first | (as_aux_lemma => kernel_rfl) | kernel_rfl) (by first | (as_aux_lemma => kernel_rfl) | kernel_rfl) (by first | (as_aux_lemma => kernel_rfl) | kernel_rfl) (fun _ _ _ h => h) (Or.inl ⟨by first | (as_aux_lemma => kernel_rfl) | kernel_rfl, ?_⟩) hHq1 ?_
                    rotate_left
                    · (intro w hSw; first | (go_simp; done) | (go_simp; with_reducible rfl))
                    (try simp only [Act.put, List.getElem_toArray, List.getElem_cons_succ, List.getElem_cons_zero, List.setIfInBounds_toArray, List.set_cons_zero, List.set_cons_succ])
                    refine wpAnyH_take (i := 22) (v := (.bool false)) rfl (by first | (as_aux_lemma => kernel_rfl) | kernel_rfl) (by first | (as_aux_lemma => kernel_rfl) | kernel_rfl) (by first | (as_aux_lemma => kernel_rfl) | kernel_rfl) (fun _ _ _ h => h) (Or.inl ⟨by first | (as_aux_lemma => kernel_rfl) | kernel_rfl, ?_⟩) hHq1 ?_
                    · (intro w hSw; first | (go_simp; done) | (go_simp; rw [if_pos HP22.out.1, if_pos HP22.out.2]) | (go_simp; exact fun a b => HP22.out ⟨a, b⟩))
                    (try simp only [Act.put, List.getElem_toArray, List.getElem_cons_succ, List.getElem_cons_zero, List.setIfInBounds_toArray, List.set_cons_zero, List.set_cons_succ])
                    refine wpAnyH_take (i := 23) (v := ?_) rfl (by first | (as_aux_lemma => kernel_rfl) | kernel_rfl) (by first | (as_aux_lemma => kernel_rfl) | kernel_rfl) (by first | (as_aux_lemma => kernel_rfl) | kernel_rfl) (fun _ _ _ h => h) (Or.inl ⟨by first | (as_aux_lemma => kernel_rfl) | kernel_rfl, ?_⟩) hHq1 ?_
                    rotate_left
                    · (intro w hSw; first | (go_simp; done) | (go_simp; with_reducible rfl))
                    (try simp only [Act.put, List.getElem_toArray, List.getElem_cons_succ, List.getElem_cons_zero, List.setIfInBounds_toArray, List.set_cons_zero, List.set_cons_succ])
                    refine wpAnyH_take (i := 24) (v := ?_) rfl (by first | (as_aux_lemma => kernel_rfl) | kernel_rfl) (by first | (as_aux_lemma => kernel_rfl) | kernel_rfl) (by first | (as_aux_lemma => kernel_rfl) | kernel_rfl) (fun _ _ _ h => h) (Or.inl ⟨by first | (as_aux_lemma => kernel_rfl) | kernel_rfl, ?_⟩) hHq1 ?_
                    rotate_left
                    · (intro w hSw; first | (go_simp; done) | (go_simp; with_reducible rfl))
                    (try simp only [Act.put, List.getElem_toArray, List.getElem_cons_succ, List.getElem_cons_zero, List.setIfInBounds_toArray, List.set_cons_zero, List.set_cons_succ])
                    refine wpAnyH_take (i := 25) (v := ?_) rfl (by first | (as_aux_lemma => kernel_rfl) | kernel_rfl) (by first | (as_aux_lemma => kernel_rfl) | kernel_rfl) (by first | (as_aux_lemma => kernel_rfl) | kernel_rfl) (fun _ _ _ h => h) (Or.inl ⟨by first | (as_aux_lemma => kernel_rfl) | kernel_rfl, ?_⟩) hHq1 ?_
                    rotate_left
                    · (intro w hSw; first | (go_simp; done) | (go_simp; with_reducible rfl))
                    (try simp only [Act.put, List.getElem_toArray, List.getElem_cons_succ, List.getElem_cons_zero, List.setIfInBounds_toArray, List.set_cons_zero, List.set_cons_succ])
                    refine wpAnyH_take (i := 26) (v := ?_) rfl (by first | (as_aux_lemma => kernel_rfl) | kernel_rfl) (by first | (as_aux_lemma => kernel_rfl) | kernel_rfl) (by first | (as_aux_lemma => kernel_rfl) | kernel_rfl) (fun _ _ _ h => h) (Or.inl ⟨by first | (as_aux_lemma => kernel_rfl) | kernel_rfl, ?_⟩) hHq1 ?_
                    rotate_left
                    · (intro w hSw; first | (go_simp; done) | (go_simp; with_reducible rfl))
                    (try simp only [Act.put, List.getElem_toArray, List.getElem_cons_succ, List.getElem_cons_zero, List.setIfInBounds_toArray, List.set_cons_zero, List.set_cons_succ])
                    refine wpAnyH_done (by first | (as_aux_lemma => kernel_rfl) | kernel_rfl) ?_ _
                    have hEnd := hHq1
                    go_wp2_with fail
                    go_meet
                    case rel => exact ⟨rfl, HCA.out⟩
                  · have HP16 : Hid (¬ (Tn.a.1 = T1.a.1 ∧ Tn.a.2 = T1.a.2)) := Lib.hid (by
                      rw [HNA.out]
                      intro h'
                      exact h16 (Prod.ext h'.1.symm h'.2.symm))
                    clear h16
                    have HSC := Lib.hid (show (fun W' : World => W'.cell? ⟨gn, 0, none⟩ = some (.int .i64 Tn.p.1) ∧ W'.cell? ⟨gn, 1, none⟩ = some (.int .i64 Tn.p.2) ∧ W'.cell? ⟨gn, 2, none⟩ = some (.int .i64 Tn.a.1) ∧ W'.cell? ⟨gn, 3, none⟩ = some (.int .i64 Tn.a.2) ∧ W'.cell? ⟨gw, 2, none⟩ = some (.int .i64 T1.a.1) ∧ W'.cell? ⟨gw, 3, none⟩ = some (.int .i64 T1.a.2) ∧ W'.cell? ⟨w.heap.size, 0, none⟩ = some (.int .i64 zk) ∧ W'.cell? ⟨w.heap.size, 2, none⟩ = some (.int .i64 zb1) ∧ W'.cell? ⟨w.heap.size, 3, none⟩ = some (.int .i64 zb2)) v9 from by
                      have k1 := HN9.out
                      have k2 := HW9'.out
                      have k3 := HS9.out
                      exact ⟨by rw [k1.cell]; rfl, by rw [k1.cell]; rfl, by rw [k1.cell]; rfl, by rw [k1.cell]; rfl, by rw [k2.cell]; rfl, by rw [k2.cell]; rfl, k3.1, k3.2.2.1, k3.2.2.2.1⟩)
                    refine wp_region_held_drew (S := (fun W' : World => W'.cell? ⟨gn, 0, none⟩ = some (.int .i64 Tn.p.1) ∧ W'.cell? ⟨gn, 1, none⟩ = some (.int .i64 Tn.p.2) ∧ W'.cell? ⟨gn, 2, none⟩ = some (.int .i64 Tn.a.1) ∧ W'.cell? ⟨gn, 3, none⟩ = some (.int .i64 Tn.a.2) ∧ W'.cell? ⟨gw, 2, none⟩ = some (.int .i64 T1.a.1) ∧ W'.cell? ⟨gw, 3, none⟩ = some (.int .i64 T1.a.2) ∧ W'.cell? ⟨w.heap.size, 0, none⟩ = some (.int .i64 zk) ∧ W'.cell? ⟨w.heap.size, 2, none⟩ = some (.int .i64 zb1) ∧ W'.cell? ⟨w.heap.size, 3, none⟩ = some (.int .i64 zb2))) (by first | (as_aux_lemma => kernel_rfl) | kernel_rfl) HSC.out (fun hHeld => ?_)
                    refine wpAnyH_ready (rs := [0]) (by first | (as_aux_lemma => kernel_rfl) | kernel_rfl) (by simp) (AllReadyH.cons rfl (fun K hK => ?_) AllReadyH.nil)
                    have hH := hHeld
                    (go_simp; go_at_call 35; refine (HAL.out _).mono ?_; rintro e va ⟨rfl, hca⟩)
                    refine hK.out _ _ (by exact ⟨hca.cell hH.1 (by simp), hca.cell hH.2.1 (by simp), hca.cell hH.2.2.1 (by simp), hca.cell hH.2.2.2.1 (by simp), hca.cell hH.2.2.2.2.1 (by simp), hca.cell hH.2.2.2.2.2.1 (by simp), hca.cell hH.2.2.2.2.2.2.1 (by simp), hca.cell hH.2.2.2.2.2.2.2.1 (by simp), hca.cell hH.2.2.2.2.2.2.2.2 (by simp)⟩) (fun hHq1 => ?_)
                    clear hK K hH 
                    have HCA := Lib.hid ((Chg.refl [] v9).drew.trans hca)
                    (try simp only [Act.put, List.getElem_toArray, List.getElem_cons_succ, List.getElem_cons_zero, List.setIfInBounds_toArray, List.set_cons_zero, List.set_cons_succ])
                    refine wpAnyH_take (i := 1) (v := ?_) rfl (by first | (as_aux_lemma => kernel_rfl) | kernel_rfl) (by first | (as_aux_lemma => kernel_rfl) | kernel_rfl) (by first | (as_aux_lemma => kernel_rfl) | kernel_rfl) (fun _ _ _ h => h) (Or.inl ⟨by first | (as_aux_lemma => kernel_rfl) | kernel_rfl, ?_⟩) hHq1 ?_
                    rotate_left
                    · (intro w hSw; first | (go_simp; done) | (go_simp; with_reducible rfl))
                    (try simp only [Act.put, List.getElem_toArray, List.getElem_cons_succ, List.getElem_cons_zero, List.setIfInBounds_toArray, List.set_cons_zero, List.set_cons_succ])
                    refine wpAnyH_take (i := 2) (v := ?_) rfl (by first | (as_aux_lemma => kernel_rfl) | kernel_rfl) (by first | (as_aux_lemma => kernel_rfl) | kernel_rfl) (by first | (as_aux_lemma => kernel_rfl) | kernel_rfl) (fun _ _ _ h => h) (Or.inl ⟨by first | (as_aux_lemma => kernel_rfl) | kernel_rfl, ?_⟩) hHq1 ?_
                    rotate_left
                    · (intro w hSw; first | (go_simp; done) | (go_simp; with_reducible rfl))
                    (try simp only [Act.put, List.getElem_toArray, List.getElem_cons_succ, List.getElem_cons_zero, List.setIfInBounds_toArray, List.set_cons_zero, List.set_cons_succ])
                    refine wpAnyH_take (i := 3) (v := ?_) rfl (by first | (as_aux_lemma => kernel_rfl) | kernel_rfl) (by first | (as_aux_lemma => kernel_rfl) | kernel_rfl) (by first | (as_aux_lemma => kernel_rfl) | kernel_rfl) (fun _ _ _ h => h) (Or.inl ⟨by first | (as_aux_lemma => kernel_rfl) | kernel_rfl, ?_⟩) hHq1 ?_
                    rotate_left
                    · (intro w hSw; first | (go_simp; done) | (go_simp; with_reducible rfl))
                    (try simp only [Act.put, List.getElem_toArray, List.getElem_cons_succ, List.getElem_cons_zero, List.setIfInBounds_toArray, List.set_cons_zero, List.set_cons_succ])
                    refine wpAnyH_take (i := 4) (v := ?_) rfl (by first | (as_aux_lemma => kernel_rfl) | kernel_rfl) (by first | (as_aux_lemma => kernel_rfl) | kernel_rfl) (by first | (as_aux_lemma => kernel_rfl) | kernel_rfl) (fun _ _ _ h => h) (Or.inl ⟨by first | (as_aux_lemma => kernel_rfl) | kernel_rfl, ?_⟩) hHq1 ?_
                    rotate_left
                    · (intro w hSw; first | (go_simp; done) | (go_simp; with_reducible rfl))
                    (try simp only [Act.put, List.getElem_toArray, List.getElem_cons_succ, List.getElem_cons_zero, List.setIfInBounds_toArray, List.set_cons_zero, List.set_cons_succ])
                    refine wpAnyH_take (i := 5) (v := ?_) rfl (by first | (as_aux_lemma => kernel_rfl) | kernel_rfl) (by first | (as_aux_lemma => kernel_rfl) | kernel_rfl) (by first | (as_aux_lemma => kernel_rfl) | kernel_rfl) (fun _ _ _ h => h) (Or.inl ⟨by first | (as_aux_lemma => kernel_rfl) | kernel_rfl, ?_⟩) hHq1 ?_
                    rotate_left
                    · (intro w hSw; first | (go_simp; done) | (go_simp; with_reducible rfl))
                    (try simp only [Act.put, List.getElem_toArray, List.getElem_cons_succ, List.getElem_cons_zero, List.setIfInBounds_toArray, List.set_cons_zero, List.set_cons_succ])
                    refine wpAnyH_take (i := 6) (v := (.bool true)) rfl (by first | (as_aux_lemma => kernel_rfl) | kernel_rfl) (by first | (as_aux_lemma => kernel_rfl) | kernel_rfl) (by first | (as_aux_lemma => kernel_rfl) | kernel_rfl) (fun _ _ _ h => h) (Or.inl ⟨by first | (as_aux_lemma => kernel_rfl) | kernel_rfl, ?_⟩) hHq1 ?_
                    · (intro w hSw; first | (go_simp; done) | (go_simp; rw [if_pos HP6.out.1, if_pos HP6.out.2]) | (go_simp; exact fun a b => HP6.out ⟨a, b⟩))
                    (try simp only [Act.put, List.getElem_toArray, List.getElem_cons_succ, List.getElem_cons_zero, List.setIfInBounds_toArray, List.set_cons_zero, List.set_cons_succ])
                    refine wpAnyH_take (i := 7) (v := ?_) rfl (by first | (as_aux_lemma => kernel_rfl) | kernel_rfl) (by first | (as_aux_lemma => kernel_rfl) | kernel_rfl) (by first | (as_aux_lemma => kernel_rfl) | kernel_rfl) (fun _ _ _ h => h) (Or.inl ⟨by first | (as_aux_lemma => kernel_rfl) | kernel_rfl, ?_⟩) hHq1 ?_
                    rotate_left
                    · (intro w hSw; first | (go_simp; done) | (go_simp; with_reducible rfl))
                    (try simp only [Act.put, List.getElem_toArray, List.getElem_cons_succ, List.getElem_cons_zero, List.setIfInBounds_toArray, List.set_cons_zero, List.set_cons_succ])
                    refine wpAnyH_take (i := 8) (v := ?_) rfl (by first | (as_aux_lemma => kernel_rfl) | kernel_rfl) (by first | (as_aux_lemma => kernel_rfl) | kernel_rfl) (by first | (as_aux_lemma => kernel_rfl) | kernel_rfl) (fun _ _ _ h => h) (Or.inl ⟨by first | (as_aux_lemma => kernel_rfl) | kernel_rfl, ?_⟩) hHq1 ?_
                    rotate_left
                    · (intro w hSw; first | (go_simp; done) | (go_simp; with_reducible rfl))
                    (try simp only [Act.put, List.getElem_toArray, List.getElem_cons_succ, List.getElem_cons_zero, List.setIfInBounds_toArray, List.set_cons_zero, List.set_cons_succ])
                    refine wpAnyH_take (i := 9) (v := ?_) rfl (by first | (as_aux_lemma => kernel_rfl) | kernel_rfl) (by first | (as_aux_lemma => kernel_rfl) | kernel_rfl) (by first | (as_aux_lemma => kernel_rfl) | kernel_rfl) (fun _ _ _ h => h) (Or.inl ⟨by first | (as_aux_lemma => kernel_rfl) | kernel_rfl, ?_⟩) hHq1 ?_
                    rotate_left
                    · (intro w hSw; first | (go_simp; done) | (go_simp; with_reducible rfl))
                    (try simp only [Act.put, List.getElem_toArray, List.getElem_cons_succ, List.getElem_cons_zero, List.setIfInBounds_toArray, List.set_cons_zero, List.set_cons_succ])
                    refine wpAnyH_take (i := 10) (v := ?_) rfl (by first | (as_aux_lemma => kernel_rfl) | kernel_rfl) (by first | (as_aux_lemma => kernel_rfl) | kernel_rfl) (by first | (as_aux_lemma => kernel_rfl) | kernel_rfl) (fun _ _ _ h => h) (Or.inl ⟨by first | (as_aux_lemma => kernel_rfl) | kernel_rfl, ?_⟩) hHq1 ?_
                    rotate_left
                    · (intro w hSw; first | (go_simp; done) | (go_simp; with_reducible rfl))
                    (try simp only [Act.put, List.getElem_toArray, List.getElem_cons_succ, List.getElem_cons_zero, List.setIfInBounds_toArray, List.set_cons_zero, List.set_cons_succ])
                    refine wpAnyH_take (i := 11) (v := ?_) rfl (by first | (as_aux_lemma => kernel_rfl) | kernel_rfl) (by first | (as_aux_lemma => kernel_rfl) | kernel_rfl) (by first | (as_aux_lemma => kernel_rfl) | kernel_rfl) (fun _ _ _ h => h) (Or.inl ⟨by first | (as_aux_lemma => kernel_rfl) | kernel_rfl, ?_⟩) hHq1 ?_
                    rotate_left
                    · (intro w hSw; first | (go_simp; done) | (go_simp; with_reducible rfl))
                    (try simp only [Act.put, List.getElem_toArray, List.getElem_cons_succ, List.getElem_cons_zero, List.setIfInBounds_toArray, List.set_cons_zero, List.set_cons_succ])
                    refine wpAnyH_take (i := 12) (v := ?_) rfl (by first | (as_aux_lemma => kernel_rfl) | kernel_rfl) (by first | (as_aux_lemma => kernel_rfl) | kernel_rfl) (by first | (as_aux_lemma => kernel_rfl) | kernel_rfl) (fun _ _ _ h => h) (Or.inl ⟨by first | (as_aux_lemma => kernel_rfl) | kernel_rfl, ?_⟩) hHq1 ?_
                    rotate_left
                    · (intro w hSw; first | (go_simp; done) | (go_simp; with_reducible rfl))
                    (try simp only [Act.put, List.getElem_toArray, List.getElem_cons_succ, List.getElem_cons_zero, List.setIfInBounds_toArray, List.set_cons_zero, List.set_cons_succ])
                    refine wpAnyH_take (i := 13) (v := ?_) rfl (by first | (as_aux_lemma => kernel_rfl) | kernel_rfl) (by first | (as_aux_lemma => kernel_rfl) | kernel_rfl) (by first | (as_aux_lemma => kernel_rfl) | kernel_rfl) (fun _ _ _ h => h) (Or.inl ⟨by first | (as_aux_lemma => kernel_rfl) | kernel_rfl, ?_⟩) hHq1 ?_
                    rotate_left
                    · (intro w hSw; first | (go_simp; done) | (go_simp; with_reducible rfl))
                    (try simp only [Act.put, List.getElem_toArray, List.getElem_cons_succ, List.getElem_cons_zero, List.setIfInBounds_toArray, List.set_cons_zero, List.set_cons_succ])
                    refine wpAnyH_take (i := 14) (v := ?_) rfl (by first | (as_aux_lemma => kernel_rfl) | kernel_rfl) (by first | (as_aux_lemma => kernel_rfl) | kernel_rfl) (by first | (as_aux_lemma => kernel_rfl) | kernel_rfl) (fun _ _ _ h => h) (Or.inl ⟨by first | (as_aux_lemma => kernel_rfl) | kernel_rfl, ?_⟩) hHq1 ?_
                    rotate_left
                    · (intro w hSw; first | (go_simp; done) | (go_simp; with_reducible rfl))
                    (try simp only [Act.put, List.getElem_toArray, List.getElem_cons_succ, List.getElem_cons_zero, List.setIfInBounds_toArray, List.set_cons_zero, List.set_cons_succ])
                    refine wpAnyH_take (i := 15) (v := ?_) rfl (by first | (as_aux_lemma => kernel_rfl) | kernel_rfl) (by first | (as_aux_lemma => kernel_rfl) | kernel_rfl) (by first | (as_aux_lemma => kernel_rfl) | kernel_rfl) (fun _ _ _ h => h) (Or.inl ⟨by first | (as_aux_lemma => kernel_rfl) | kernel_rfl, ?_⟩) hHq1 ?_
                    rotate_left
                    · (intro w hSw; first | (go_simp; done) | (go_simp; with_reducible rfl))
                    (try simp only [Act.put, List.getElem_toArray, List.getElem_cons_succ, List.getElem_cons_zero, List.setIfInBounds_toArray, List.set_cons_zero, List.set_cons_succ])
                    refine wpAnyH_take (i := 16) (v := (.bool false)) rfl (by first | (as_aux_lemma => kernel_rfl) | kernel_rfl) (by first | (as_aux_lemma => kernel_rfl) | kernel_rfl) (by first | (as_aux_lemma => kernel_rfl) | kernel_rfl) (fun _ _ _ h => h) (Or.inl ⟨by first | (as_aux_lemma => kernel_rfl) | kernel_rfl, ?_⟩) hHq1 ?_
                    · (intro w hSw; first | (go_simp; done) | (go_simp; rw [if_pos HP16.out.1, if_pos HP16.out.2]) | (go_simp; exact fun a b => HP16.out ⟨a, b⟩))
                    (try simp only [Act.put, List.getElem_toArray, List.getElem_cons_succ, List.getElem_cons_zero, List.setIfInBounds_toArray, List.set_cons_zero, List.set_cons_succ])
                    refine wpAnyH_take (i := 17) (v := ?_) rfl (by first | (as_aux_lemma => kernel_rfl) | kernel_rfl) (by first | (as_aux_lemma => kernel_rfl) | kernel_rfl) (by first | (as_aux_lemma => kernel_rfl) | kernel_rfl) (fun _ _ _ h => h) (Or.inl ⟨by first | (as_aux_lemma => kernel_rfl) | kernel_rfl, ?_⟩) hHq1 ?_
                    rotate_left
                    · (intro w hSw; first | (go_simp; done) | (go_simp; with_reducible rfl))
                    (try simp only [Act.put, List.getElem_toArray, List.getElem_cons_succ, List.getElem_cons_zero, List.setIfInBounds_toArray, List.set_cons_zero, List.set_cons_succ])
                    refine wpAnyH_take (i := 18) (v := undef) rfl (by first | (as_aux_lemma => kernel_rfl) | kernel_rfl) (by first | (as_aux_lemma => kernel_rfl) | kernel_rfl) (by first | (as_aux_lemma => kernel_rfl) | kernel_rfl) (fun _ _ _ h => h) (Or.inr ⟨by kernel_rfl, rfl⟩) hHq1 ?_
                    (try simp only [Act.put, List.getElem_toArray, List.getElem_cons_succ, List.getElem_cons_zero, List.setIfInBounds_toArray, List.set_cons_zero, List.set_cons_succ])
                    refine wpAnyH_take (i := 19) (v := undef) rfl (by first | (as_aux_lemma => kernel_rfl) | kernel_rfl) (by first | (as_aux_lemma => kernel_rfl) | kernel_rfl) (by first | (as_aux_lemma => kernel_rfl) | kernel_rfl) (fun _ _ _ h => h) (Or.inr ⟨by kernel_rfl, rfl⟩) hHq1 ?_
                    (try simp only [Act.put, List.getElem_toArray, List.getElem_cons_succ, List.getElem_cons_zero, List.setIfInBounds_toArray, List.set_cons_zero, List.set_cons_succ])
                    refine wpAnyH_take (i := 20) (v := undef) rfl (by first | (as_aux_lemma => kernel_rfl) | kernel_rfl) (by first | (as_aux_lemma => kernel_rfl) | kernel_rfl) (by first | (as_aux_lemma => kernel_rfl) | kernel_rfl) (fun _ _ _ h => h) (Or.inr ⟨by kernel_rfl, rfl⟩) hHq1 ?_
                    (try simp only [Act.put, List.getElem_toArray, List.getElem_cons_succ, List.getElem_cons_zero, List.setIfInBounds_toArray, List.set_cons_zero, List.set_cons_succ])
                    refine wpAnyH_take (i := 21) (v := undef) rfl (by first | (as_aux_lemma => kernel_rfl) | kernel_rfl) (by first | (as_aux_lemma => kernel_rfl) | kernel_rfl) (by first | (as_aux_lemma => kernel_rfl) | kernel_rfl) (fun _ _ _ h => h) (Or.inr ⟨by kernel_rfl, rfl⟩) hHq1 ?_
                    (try simp only [Act.put, List.getElem_toArray, List.getElem_cons_succ, List.getElem_cons_zero, List.setIfInBounds_toArray, List.set_cons_zero, List.set_cons_succ])
                    refine wpAnyH_take (i := 22) (v := undef) rfl (by first | (as_aux_lemma => kernel_rfl) | kernel_rfl) (by first | (as_aux_lemma => kernel_rfl) | kernel_rfl) (by first | (as_aux_lemma => kernel_rfl) | kernel_rfl) (fun _ _ _ h => h) (Or.inr ⟨by kernel_rfl, rfl⟩) hHq1 ?_
                    (try simp only [Act.put, List.getElem_toArray, List.getElem_cons_succ, List.getElem_cons_zero, List.setIfInBounds_toArray, List.set_cons_zero, List.set_cons_succ])
                    refine wpAnyH_take (i := 23) (v := ?_) rfl (by first | (as_aux_lemma => kernel_rfl) | kernel_rfl) (by first | (as_aux_lemma => kernel_rfl) | kernel_rfl) (by first | (as_aux_lemma => kernel_rfl) | kernel_rfl) (fun _ _ _ h => h) (Or.inl ⟨by first | (as_aux_lemma => kernel_rfl) | kernel_rfl, ?_⟩) hHq1 ?_
                    rotate_left
                    · (intro w hSw; first | (go_simp; done) | (go_simp; with_reducible rfl))
                    (try simp only [Act.put, List.getElem_toArray, List.getElem_cons_succ, List.getElem_cons_zero, List.setIfInBounds_toArray, List.set_cons_zero, List.set_cons_succ])
                    refine wpAnyH_take (i := 24) (v := ?_) rfl (by first | (as_aux_lemma => kernel_rfl) | kernel_rfl) (by first | (as_aux_lemma => kernel_rfl) | kernel_rfl) (by first | (as_aux_lemma => kernel_rfl) | kernel_rfl) (fun _ _ _ h => h) (Or.inl ⟨by first | (as_aux_lemma => kernel_rfl) | kernel_rfl, ?_⟩) hHq1 ?_
                    rotate_left
                    · (intro w hSw; first | (go_simp; done) | (go_simp; with_reducible rfl))
                    (try simp only [Act.put, List.getElem_toArray, List.getElem_cons_succ, List.getElem_cons_zero, List.setIfInBounds_toArray, List.set_cons_zero, List.set_cons_succ])
                    refine wpAnyH_take (i := 25) (v := ?_) rfl (by first | (as_aux_lemma => kernel_rfl) | kernel_rfl) (by first | (as_aux_lemma => kernel_rfl) | kernel_rfl) (by first | (as_aux_lemma => kernel_rfl) | kernel_rfl) (fun _ _ _ h => h) (Or.inl ⟨by first | (as_aux_lemma => kernel_rfl) | kernel_rfl, ?_⟩) hHq1 ?_
                    rotate_left
                    · (intro w hSw; first | (go_simp; done) | (go_simp; with_reducible rfl))
                    (try simp only [Act.put, List.getElem_toArray, List.getElem_cons_succ, List.getElem_cons_zero, List.setIfInBounds_toArray, List.set_cons_zero, List.set_cons_succ])
                    refine wpAnyH_take (i := 26) (v := ?_) rfl (by first | (as_aux_lemma => kernel_rfl) | kernel_rfl) (by first | (as_aux_lemma => kernel_rfl) | kernel_rfl) (by first | (as_aux_lemma => kernel_rfl) | kernel_rfl) (fun _ _ _ h => h) (Or.inl ⟨by first | (as_aux_lemma => kernel_rfl) | kernel_rfl, ?_⟩) hHq1 ?_
                    rotate_left
                    · (intro w hSw; first | (go_simp; done) | (go_simp; with_reducible rfl))
                    (try simp only [Act.put, List.getElem_toArray, List.getElem_cons_succ, List.getElem_cons_zero, List.setIfInBounds_toArray, List.set_cons_zero, List.set_cons_succ])
                    refine wpAnyH_done (by first | (as_aux_lemma => kernel_rfl) | kernel_rfl) ?_ _
                    have hEnd := hHq1
                    go_wp2_with fail
                    go_meet
                    case rel => exact ⟨rfl, HCA.out⟩
              case rest =>
                obtain ⟨rfl, hcut⟩ := hcut
                have HCF := Lib.hid (HEND.out _ (HC9.out.trans hcut))
                clear hcut
                go_wp2_with fail
                go_ret
                exact ⟨rfl, HCF.out⟩
            · have hgd1 : gd = false := by rw [hgd9.out]; rfl
              subst hgd1
              have HT2 := Lib.hid (HAW.out.e hgc.out rfl)
              clear hc1b hsm
              go_upto_region 33 with fail
              go_cut [229] from 204 to 229 (fun v wx => v = .bool false ∧ wx = v9)
              case first =>
                rcases hOe with h9 | ⟨h9, h8⟩
                all_goals (try subst h8)
                all_goals
                  go_wp2_with fail
                  go_meet
                  (case rel => exact ⟨rfl, rfl⟩)
              case' rest =>
                obtain ⟨rfl, hw9⟩ := hcut
                subst hw9
              rename World => v9
              clear hOe c1
              go_upto_region 37 with fail
              have HSC := Lib.hid (show (fun W' : World => W'.cell? ⟨gw, 0, none⟩ = some (.int .i64 T1.p.1) ∧ W'.cell? ⟨gw, 1, none⟩ = some (.int .i64 T1.p.2) ∧ W'.cell? ⟨gw, 2, none⟩ = some (.int .i64 T1.a.1) ∧ W'.cell? ⟨gw, 3, none⟩ = some (.int .i64 T1.a.2) ∧ W'.cell? ⟨gw, 4, none⟩ = some (.int .u64 (T1.y.e : Int)) ∧ W'.cell? ⟨gw, 5, none⟩ = some (.slice T1.y.a T1.y.sg.length T1.y.c) ∧ W'.cell? ⟨gw, 6, none⟩ = some (.int .i64 T1.y.q) ∧ W'.cell? ⟨gn, 0, none⟩ = some (.int .i64 Tn.p.1) ∧ W'.cell? ⟨gn, 1, none⟩ = some (.int .i64 Tn.p.2) ∧ W'.cell? ⟨gn, 2, none⟩ = some (.int .i64 Tn.a.1) ∧ W'.cell? ⟨gn, 3, none⟩ = some (.int .i64 Tn.a.2) ∧ W'.cell? ⟨gn, 4, none⟩ = some (.int .u64 (Tn.y.e : Int)) ∧ W'.cell? ⟨gn, 5, none⟩ = some (.slice Tn.y.a Tn.y.sg.length Tn.y.c) ∧ W'.cell? ⟨gn, 6, none⟩ = some (.int .i64 Tn.y.q)) v9 from by
                have k1 := ((HW7.out.chg Hv8.out (by simp)).chg Hv9.out (by simp))
                have k2 := ((HN7.out.chg Hv8.out (by simp)).chg Hv9.out (by simp))
                refine ⟨?_, ?_, ?_, ?_, ?_, ?_, ?_, ?_, ?_, ?_, ?_, ?_, ?_, ?_⟩ <;> first | (rw [k1.cell]; rfl) | (rw [k2.cell]; rfl))
              have HTX := Lib.hid (fun W' => told_any T1 W')
              have HTY := Lib.hid (fun W' => told_any Tn W')
              have HSM := Lib.hid (fun W' (h9 : Chg [] v9 W') => same12_any T1 Tn W' (HIN.out W' ((Hv8.out.trans Hv9.out).trans h9)).1.1 (HIN.out W' ((Hv8.out.trans Hv9.out).trans h9)).2.2.2.1.1 (HIN.out W' ((Hv8.out.trans Hv9.out).trans h9)).1.2 (HIN.out W' ((Hv8.out.trans Hv9.out).trans h9)).2.2.2.1.2)
              simp only [EsT.val] at HTX HTY HSM
              go_cut [29] from 29 to 262 (fun v wx => v = .bool (esEq T1.x Tn.x) ∧ Chg [] v9 wx)
              case first => as_aux_lemma =>
                refine wp_region_held_drew (S := (fun W' : World => W'.cell? ⟨gw, 0, none⟩ = some (.int .i64 T1.p.1) ∧ W'.cell? ⟨gw, 1, none⟩ = some (.int .i64 T1.p.2) ∧ W'.cell? ⟨gw, 2, none⟩ = some (.int .i64 T1.a.1) ∧ W'.cell? ⟨gw, 3, none⟩ = some (.int .i64 T1.a.2) ∧ W'.cell? ⟨gw, 4, none⟩ = some (.int .u64 (T1.y.e : Int)) ∧ W'.cell? ⟨gw, 5, none⟩ = some (.slice T1.y.a T1.y.sg.length T1.y.c) ∧ W'.cell? ⟨gw, 6, none⟩ = some (.int .i64 T1.y.q) ∧ W'.cell? ⟨gn, 0, none⟩ = some (.int .i64 Tn.p.1) ∧ W'.cell? ⟨gn, 1, none⟩ = some (.int .i64 Tn.p.2) ∧ W'.cell? ⟨gn, 2, none⟩ = some (.int .i64 Tn.a.1) ∧ W'.cell? ⟨gn, 3, none⟩ = some (.int .i64 Tn.a.2) ∧ W'.cell? ⟨gn, 4, none⟩ = some (.int .u64 (Tn.y.e : Int)) ∧ W'.cell? ⟨gn, 5, none⟩ = some (.slice Tn.y.a Tn.y.sg.length Tn.y.c) ∧ W'.cell? ⟨gn, 6, none⟩ = some (.int .i64 Tn.y.q))) (by first | (as_aux_lemma => kernel_rfl) | kernel_rfl) (by have h9 := cells14 HSC.out (Chg.refl [] v9).drew; exact h9) (fun hHeld => ?_)
                refine wpAnyH_take (i := 0) (v := ?_) rfl (by first | (as_aux_lemma => kernel_rfl) | kernel_rfl) (by first | (as_aux_lemma => kernel_rfl) | kernel_rfl) (by first | (as_aux_lemma => kernel_rfl) | kernel_rfl) (fun _ _ _ h => h) (Or.inl ⟨by first | (as_aux_lemma => kernel_rfl) | kernel_rfl, ?_⟩) hHeld ?_
                rotate_left
                · (intro w hSw; first | (go_simp; done) | (go_simp; with_reducible rfl))
                (try simp only [Act.put, List.getElem_toArray, List.getElem_cons_succ, List.getElem_cons_zero, List.setIfInBounds_toArray, List.set_cons_zero, List.set_cons_succ])
                refine wpAnyH_take (i := 2) (v := ?_) rfl (by first | (as_aux_lemma => kernel_rfl) | kernel_rfl) (by first | (as_aux_lemma => kernel_rfl) | kernel_rfl) (by first | (as_aux_lemma => kernel_rfl) | kernel_rfl) (fun _ _ _ h => h) (Or.inl ⟨by first | (as_aux_lemma => kernel_rfl) | kernel_rfl, ?_⟩) hHeld ?_
                rotate_left
                · (intro w hSw; first | (go_simp; done) | (go_simp; with_reducible rfl))
                (try simp only [Act.put, List.getElem_toArray, List.getElem_cons_succ, List.getElem_cons_zero, List.setIfInBounds_toArray, List.set_cons_zero, List.set_cons_succ])
                refine wpAnyH_ready (rs := [1]) (by first | (as_aux_lemma => kernel_rfl) | kernel_rfl) (by simp) (AllReadyH.cons rfl (fun K hK => ?_) AllReadyH.nil)
                have hH := hHeld
                (go_simp; go_at_call 54; refine (HTX.out _).mono ?_; rintro r wa ⟨rfl, hca⟩)
                refine hK.out _ _ (by exact cells14 hH hca) (fun hHq1 => ?_)
                clear hK K hH 
                have HCA := Lib.hid ((Chg.refl [] v9).drew.trans hca)
                (try simp only [Act.put, List.getElem_toArray, List.getElem_cons_succ, List.getElem_cons_zero, List.setIfInBounds_toArray, List.set_cons_zero, List.set_cons_succ])
                refine wpAnyH_ready (rs := [3]) (by first | (as_aux_lemma => kernel_rfl) | kernel_rfl) (by simp) (AllReadyH.cons rfl (fun K hK => ?_) AllReadyH.nil)
                have hH := hHq1
                (go_simp; go_at_call 54; refine (HTY.out _).mono ?_; rintro r wb ⟨rfl, hcb⟩)
                refine hK.out _ _ (by exact cells14 hH hcb) (fun hHq2 => ?_)
                clear hK K hH hHq1
                have HCB := Lib.hid (HCA.out.trans hcb)
                (try simp only [Act.put, List.getElem_toArray, List.getElem_cons_succ, List.getElem_cons_zero, List.setIfInBounds_toArray, List.set_cons_zero, List.set_cons_succ])
                refine wpAnyH_ready (rs := [4]) (by first | (as_aux_lemma => kernel_rfl) | kernel_rfl) (by simp) (AllReadyH.cons rfl (fun K hK => ?_) AllReadyH.nil)
                have hH := hHq2
                (go_simp; go_at_call 53; refine (HSM.out _ HCB.out).mono ?_; rintro r wd ⟨rfl, hcd⟩)
                refine hK.out _ _ (by exact cells14 hH hcd) (fun hHq3 => ?_)
                clear hK K hH hHq2
                have HCD := Lib.hid (HCB.out.trans hcd)
                (try simp only [Act.put, List.getElem_toArray, List.getElem_cons_succ, List.getElem_cons_zero, List.setIfInBounds_toArray, List.set_cons_zero, List.set_cons_succ])
                refine wpAnyH_take (i := 5) (v := ?_) rfl (by first | (as_aux_lemma => kernel_rfl) | kernel_rfl) (by first | (as_aux_lemma => kernel_rfl) | kernel_rfl) (by first | (as_aux_lemma => kernel_rfl) | kernel_rfl) (fun _ _ _ h => h) (Or.inl ⟨by first | (as_aux_lemma => kernel_rfl) | kernel_rfl, ?_⟩) hHq3 ?_
                rotate_left
                · (intro w hSw; first | (go_simp; done) | (go_simp; with_reducible rfl))
                (try simp only [Act.put, List.getElem_toArray, List.getElem_cons_succ, List.getElem_cons_zero, List.setIfInBounds_toArray, List.set_cons_zero, List.set_cons_succ])
                refine wpAnyH_done (by first | (as_aux_lemma => kernel_rfl) | kernel_rfl) ?_ _
                have hEnd := hHq3
                (go_wp2_with fail; go_meet; (case rel => exact ⟨rfl, HCD.out⟩))
              case' rest =>
                rename World => v10
                obtain ⟨rfl, hcut⟩ := hcut
                have Hv10 := Lib.hid hcut
                clear hcut HSC HTX HTY HSM
              have hsm : esEq T1.x Tn.x = true := by rw [esEq_iff, HX5.out.1, HXN.out.1, HT2.out]
              rw [hsm]
              go_wp2_with (first | (go_at_call 35; refine (HAL.out _).mono ?_; rintro e va ⟨rfl, hca⟩; have HCA := Lib.hid (HEND.out _ (HC9.out.trans (Hv10.out.trans hca))); clear hca) | fail)
              go_ret
              exact ⟨rfl, HCA.out⟩
        · rw [hgc.out] at g1
          subst g1
          have hc1 : code = 1 := HAW.out.a hgc.out
          subst hc1
          clear g2
          go_wp2_with (first | (go_at_call 35; refine (HAL.out _).mono ?_; rintro e va ⟨rfl, hca⟩; have HCA := Lib.hid (HEND.out _ (HCT.out _ hca)); clear hca) | fail)
          go_ret
          exact ⟨rfl, HCA.out⟩
end Go.Proofs.YtcadnlilijkneaaGreat
