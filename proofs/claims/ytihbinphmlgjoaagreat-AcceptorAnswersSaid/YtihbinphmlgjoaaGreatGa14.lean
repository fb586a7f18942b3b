/-
  What a tape is in memory; contract of Open. No claim of its own.
-/
import Derived.Test.YtihbinphmlgjoaaGreatGa13
namespace Go.Proofs.YtihbinphmlgjoaaGreat
open Go.RowKit Go.Deep
set_option linter.unusedVariables false
set_option linter.unusedSimpArgs false

/-- a tape: its struct in block q, its disk's struct in block p, of n sectors; the half that counts, the half that will; its records, and those that it will have; how many steps are done; its blocks lie in l -/
structure TpV (w : World) (l : List Nat) (q p n h h' : Nat) (L L' : List Rec) (k : Nat) (vF vE vF' vE' : Value) : Prop where
  own : Own w q 139 [.pointer (some ⟨p, 0, none⟩), .int .i64 (h : Int), vF, vE, .int .i64 (h' : Int), vF', vE', .int .i64 (k : Int)]
  fr : Lst w 0 5 vF (u8s (frs L))
  en : Lst w 0 3 vE (i64s (ens L))
  fr' : Lst w 0 5 vF' (u8s (frs L'))
  en' : Lst w 0 3 vE' (i64s (ens L'))
  alF : ∀ g, vF.ownBlock = some g → vF'.ownBlock = some g → (frs L).length ≤ (frs L').length
  alE : ∀ g, vE.ownBlock = some g → vE'.ownBlock = some g → L.length ≤ L'.length
  memq : q ∈ l
  memv : ∀ x, x ∈ bl vF ∨ x ∈ bl vE ∨ x ∈ bl vF' ∨ x ∈ bl vE' → x ∈ l
  half : h ≤ 1
  half' : h' ≤ 1
  step : k ≤ 3
  ok : okL L
  ok' : okL L'
  room : (frs L).length ≤ hsec n * 64
  room' : (frs L').length ≤ hsec n * 64
  pre : h = h' → ∃ W, L' = L ++ W
  busy : 0 < k → h ≠ h' ∨ L.length < L'.length
def Tp (w : World) (l : List Nat) (q p n h h' : Nat) (L L' : List Rec) (k : Nat) : Prop := ∃ vF vE vF' vE', TpV w l q p n h h' L L' k vF vE vF' vE'
theorem TpV.chg {w w' : World} {l : List Nat} {q p n h h' : Nat} {L L' : List Rec} {k : Nat} {vF vE vF' vE' : Value} (t : TpV w l q p n h h' L L' k vF vE vF' vE') {m : List Nat} (hc : Chg m w w') (hm : ∀ x ∈ m, x ∉ l) : TpV w' l q p n h h' L L' k vF vE vF' vE' :=
  ⟨t.own.chg hc (fun h => hm _ h t.memq), t.fr.chg hc (fun g hg h => hm _ h (t.memv g (.inl (mem_bl.2 hg)))), t.en.chg hc (fun g hg h => hm _ h (t.memv g (.inr (.inl (mem_bl.2 hg))))),
    t.fr'.chg hc (fun g hg h => hm _ h (t.memv g (.inr (.inr (.inl (mem_bl.2 hg)))))), t.en'.chg hc (fun g hg h => hm _ h (t.memv g (.inr (.inr (.inr (mem_bl.2 hg)))))),
    t.alF, t.alE, t.memq, t.memv, t.half, t.half', t.step, t.ok, t.ok', t.room, t.room', t.pre, t.busy⟩
theorem Tp.chg {w w' : World} {l : List Nat} {q p n h h' : Nat} {L L' : List Rec} {k : Nat} (t : Tp w l q p n h h' L L' k) {m : List Nat} (hc : Chg m w w') (hm : ∀ x ∈ m, x ∉ l) : Tp w' l q p n h h' L L' k := by
  obtain ⟨a, b, c, d, t⟩ := t
  exact ⟨a, b, c, d, t.chg hc hm⟩
theorem Tp.kept {w w' : World} {l : List Nat} {q p n h h' : Nat} {L L' : List Rec} {k : Nat} (t : Tp w l q p n h h' L L' k) (hc : Chg [] w w') : Tp w' l q p n h h' L L' k := t.chg hc (by simp)
theorem TpV.kept {w w' : World} {l : List Nat} {q p n h h' : Nat} {L L' : List Rec} {k : Nat} {vF vE vF' vE' : Value} (t : TpV w l q p n h h' L L' k vF vE vF' vE') (hc : Chg [] w w') : TpV w' l q p n h h' L L' k vF vE vF' vE' := t.chg hc (by simp)
/-- what Open tells of a disk -/
def OpenT (w : World) (p n : Nat) (R : Nat → Sec) (e : Ending) (w' : World) : Prop :=
  (∃ h L q l, Opens n R h L ∧ e = .returned (.tuple #[.pointer (some ⟨q, 0, none⟩), .int .i64 0]) ∧ Tp w' l q p n h h L L 0 ∧ (∀ x ∈ l, w.heap.size ≤ x) ∧ Chg [] w w') ∨
  ((∀ h L, ¬ Opens n R h L) ∧ e = .returned (.tuple #[.pointer none, .int .i64 63]) ∧ Chg [] w w')
theorem open_nil (w : World) : Calls Tryz.prog 30 #[.pointer none] w fun e w' => e = .returned (.tuple #[.pointer none, .int .i64 1]) ∧ w = w' := by
  go_enter Tryz.func30, Tryz.ntmps30
  go_wp2
  go_ret2
  exact ⟨rfl, rfl⟩
theorem open_few (w : World) {p g b n : Nat} {F : Nat → Sec} {m : Nat → Option Sec} (hd : Dsk w p g b n F m) (hn : n < 3) : Calls Tryz.prog 30 #[.pointer (some ⟨p, 0, none⟩)] w fun e w' => e = .returned (.tuple #[.pointer none, .int .i64 1]) ∧ w = w' := by
  have HL := Lib.hid (len_ok w hd)
  have h1 : decide ((n : Int) < 3) = true := by simp; omega
  clear hd
  go_enter Tryz.func30, Tryz.ntmps30
  go_wp2_with (first | (go_at_call 59; refine HL.out.mono ?_; rintro e w' ⟨rfl, rfl⟩) | fail)
  go_ret2
  exact ⟨rfl, rfl⟩
/-- what a disk must be for Open -/
theorem opens_sup {n : Nat} {R : Nat → Sec} {h : Nat} {L : List Rec} (hn : n ≤ 1024) (o : Opens n R h L) : h = supH (R 0) ∧ L.length = supR (R 0) ∧ (frs L).length = supB (R 0) ∧ supH (R 0) ≤ 1 ∧ supS (supH (R 0)) (supR (R 0)) (supB (R 0)) = R 0 := by
  have h1 := o.half
  have h3 := frs_ge o.ok
  have h5 := o.room
  unfold hsec at h5
  obtain ⟨e1, e2, e3⟩ := sup_of (h := h) (r := L.length) (b := (frs L).length) h1 (by omega) (by omega)
  rw [← o.sup] at e1 e2 e3
  refine ⟨e1.symm, e2.symm, e3.symm, by rw [e1]; exact h1, by rw [e1, e2, e3]; exact o.sup.symm⟩
theorem opens_bytes {n : Nat} {R : Nat → Sec} {h : Nat} {L : List Rec} (hR : ∀ i, (R i).length = 64) (hr : (frs L).length ≤ hsec n * 64) : (cat R (1 + h * hsec n) (ceilS (frs L).length)).take (frs L).length = (halfB n R h).take (frs L).length :=
  cat_take_any hR _ _ _ _ (by unfold ceilS; omega) hr
set_option maxHeartbeats 4000000 in
set_option maxRecDepth 100000 in
theorem open_ok (w : World) {p g b n : Nat} {F : Nat → Sec} {m : Nat → Option Sec} (hd : Dsk w p g b n F m) (hn : 3 ≤ n) :
    Calls Tryz.prog 30 #[.pointer (some ⟨p, 0, none⟩)] w (OpenT w p n (now F m)) := by
  have HL := Lib.hid (len_ok w hd)
  have ht := hd.top
  have h1 : decide ((n : Int) < 3) = false := by simp; omega
  obtain ⟨W1, HW1⟩ : ∃ W1, Hid (w.alloc (.cells #[.pointer (some ⟨p, 0, none⟩), .int .i64 0, .slice none 0 0, .slice none 0 0, .int .i64 0, .slice none 0 0, .slice none 0 0, .int .i64 0] 139) = W1) := ⟨_, Lib.hid rfl⟩
  have hC1 : Chg [] w W1 := by rw [← HW1.out]; exact (Chg.refl [] w).alloc _
  have hO1 : Own W1 w.heap.size 139 [.pointer (some ⟨p, 0, none⟩), .int .i64 0, .slice none 0 0, .slice none 0 0, .int .i64 0, .slice none 0 0, .slice none 0 0, .int .i64 0] := by rw [← HW1.out]; exact Own.new w _ _
  have h0 := read_ok W1 (hd.kept hC1) 0 (by omega)
  rw [show ((0 : Nat) : Int) = 0 from rfl] at h0
  obtain ⟨S, HSS⟩ : ∃ S, Hid (now F m 0 = S) := ⟨_, Lib.hid rfl⟩
  have hS64 : S.length = 64 := by rw [← HSS.out]; exact hd.lenN 0
  rw [HSS.out] at h0
  have H0 := Lib.hid h0
  have HD := Lib.hid hd
  have HC1 := Lib.hid hC1
  have HO1 := Lib.hid hO1
  clear hd hC1 hO1 h0
  go_enter Tryz.func30, Tryz.ntmps30
  go_wp2_with (first | (go_at_call 59; refine HL.out.mono ?_; rintro e w' ⟨rfl, rfl⟩) | fail)
  simp only [HW1.out]
  refine H0.out.mono ?_
  rintro e w2 ⟨rfl, hc2⟩
  go_wp2_with (first
    | (refine wpList_alloc37 rfl rfl ?_)
    | (refine wpList_laid rfl _ _ rfl S rfl rfl rfl hS64 ?_; intro w3 hr3 hc3)
    | (refine wpList_load37 rfl _ rfl _ 0 rfl S hr3 hS64 ?_)
    | fail)
  have HS := Lib.hid (superOf_any w3 S hS64)
  have hO3 := HO1.out.chg (hc2.trans hc3) (by simp)
  have HO3 := Lib.hid hO3
  have HC3 := Lib.hid ((HC1.out.trans hc2).trans hc3)
  clear hc2 hc3 hr3 hO3
  refine HS.out.mono ?_
  rintro e w4 ⟨rfl, hc4⟩
  have hx := supH_lt S
  have hr := supR_lt hS64
  have hb := supB_lt hS64
  obtain ⟨x, HX⟩ : ∃ x, Hid (supH S = x) := ⟨_, Lib.hid rfl⟩
  obtain ⟨r, HR⟩ : ∃ r, Hid (supR S = r) := ⟨_, Lib.hid rfl⟩
  obtain ⟨y, HY⟩ : ∃ y, Hid (supB S = y) := ⟨_, Lib.hid rfl⟩
  obtain ⟨okB, HK⟩ : ∃ okB, Hid (decide (supH S ≤ 1 ∧ supS (supH S) (supR S) (supB S) = S) = okB) := ⟨_, Lib.hid rfl⟩
  simp only [HK.out]
  simp only [HX.out, HR.out, HY.out] at hx hr hb ⊢
  have hC4 := HC3.out.trans hc4
  have hO4 := HO3.out.chg hc4 (by simp)
  have hCW : Chg [] w4 (w4.alloc (.cells #[.int .u8 (x : Int), .int .u32 (r : Int), .int .u32 (y : Int)] 142)) := (Chg.refl [] w4).alloc _
  obtain ⟨W5, HW5⟩ : ∃ W5, Hid (w4.alloc (.cells #[.int .u8 (x : Int), .int .u32 (r : Int), .int .u32 (y : Int)] 142) = W5) := ⟨_, Lib.hid rfl⟩
  rw [HW5.out] at hCW
  have hO5 := hO4.chg hCW (by simp)
  have hP5 : Own W5 w4.heap.size 142 [.int .u8 (x : Int), .int .u32 (r : Int), .int .u32 (y : Int)] := by rw [← HW5.out]; exact Own.new w4 _ _
  have HO5 := Lib.hid hO5
  have HP5 := Lib.hid hP5
  have hC5 := hC4.trans hCW
  have HC5 := Lib.hid hC5
  clear hO4 hCW hO5 hP5 hC4 hc4 hC5
  go_wp2_with fail
  simp only [HW5.out]
  cases okB with
  | false =>
    go_quiet (fail)
    go_wp2
    go_ret2
    refine .inr ⟨fun h2 L2 o => ?_, rfl, HC5.out.drewN _⟩
    obtain ⟨_, _, _, e1, e2⟩ := opens_sup ht o
    rw [HSS.out] at e1 e2
    have := HK.out
    rw [decide_eq_true (And.intro e1 e2)] at this
    cases this
  | true =>
    have hk2 := of_decide_eq_true HK.out
    have hx1 : x ≤ 1 := by rw [← HX.out]; exact hk2.1
    have hsup := hk2.2
    rw [HX.out, HR.out, HY.out] at hsup
    have HSUP := Lib.hid hsup
    clear hk2 hsup
    have hq5 := HO5.out.cell 0
    have y5 := HP5.out.cell 2
    have y0 := HP5.out.cell 0
    simp at hq5 y5 y0
    have HHS := Lib.hid (fun k => halfSize_any (W5.drewN k) (show (W5.drewN k).cell? ⟨w.heap.size, 0, none⟩ = _ from hq5) (HD.out.kept (HC5.out.drewN k)))
    obtain ⟨s, HSZ⟩ : ∃ s, Hid (hsec n * 64 = s) := ⟨_, Lib.hid rfl⟩
    have hs1 : s ≤ 100000 := by rw [← HSZ.out]; unfold hsec; omega
    rw [HSZ.out] at HHS
    have e1 : IntKind.u32.wrap (s : Int) = (s : Int) := by rw [IntKind.wrap_u32]; omega
    by_cases hgt : s < y
    · have hd : decide ((s : Int) < (y : Int)) = true := by simp; omega
      have hd2 : decide (s < y) = true := by simpa using hgt
      go_quiet ((go_at_call 61; exact quiet1 (HHS.out _)))
      go_wp2
      go_ret2
      refine .inr ⟨fun h2 L2 o => ?_, rfl, HC5.out.drewN _⟩
      obtain ⟨_, _, e3, _, _⟩ := opens_sup ht o
      rw [HSS.out, HY.out] at e3
      have := o.room
      rw [HSZ.out] at this
      omega
    · have hd : decide ((s : Int) < (y : Int)) = false := by simp; omega
      have hd2 : decide (s < y) = false := by simpa using hgt
      go_quiet ((go_at_call 61; exact quiet1 (HHS.out _)))
      rename_i nq
      have HRD := Lib.hid (read_tape (W5.drewN nq) (show (W5.drewN nq).cell? ⟨w.heap.size, 0, none⟩ = _ from hq5) (HD.out.kept (HC5.out.drewN nq)) x y hx1 (by rw [HSZ.out]; omega))
      obtain ⟨bs, HBS⟩ : ∃ bs, Hid ((cat (now F m) (1 + x * hsec n) (ceilS y)).take y = bs) := ⟨_, Lib.hid rfl⟩
      have hbl : bs.length = y := by
        rw [← HBS.out, List.length_take, cat_len HD.out.lenN]
        unfold ceilS; omega
      rw [HBS.out] at HRD
      have HBL := Lib.hid hbl
      clear hbl
      go_wp2_with fail
      refine HRD.out.mono ?_
      rintro e w6 ⟨a6, c6, rfl, hl6, hb6, hc6⟩
      rw [HBL.out] at hl6 hb6 ⊢
      obtain ⟨_, _, he6, hro6, hcap6, -⟩ := hl6.form
      injection he6 with he7 he8 he9
      subst he7 he9
      have hm6 : c6 ≤ 9223372036854775807 := by
        rcases hl6.2 with ⟨h0, _⟩ | ⟨g, cap, cur, h0, _, _, _, hcm, _⟩
        · injection h0 with _ _ h0; omega
        · injection h0 with _ _ h0; unfold maxLen at hcm; omega
      rw [u8s_length, HBL.out] at hcap6
      have hco := contentOf_any w6 x a6 bs c6 w6.heap.size hro6 (Nat.le_refl _) hx1 (by rw [HBL.out]; exact hcap6) hm6 (by rw [HBL.out]; omega)
      rw [HBL.out] at hco
      have HCO := Lib.hid hco
      have HL6 := Lib.hid hl6
      have HB6 := Lib.hid hb6
      have hc06 := (HC5.out.drewN nq).trans hc6
      have HC6 := Lib.hid hc06
      have hP6 := Own.chg (a := W5.drewN nq) HP5.out hc6 (by simp)
      have hO6 := Own.chg (a := W5.drewN nq) HO5.out hc6 (by simp)
      have z0 := hP6.cell 0
      simp at z0
      have HP6 := Lib.hid hP6
      have HO6 := Lib.hid hO6
      clear hco hl6 hb6 hc6 hc06 hP6 hO6 hro6 he8 hq5 y5 y0 HHS
      go_wp2_with fail
      refine HCO.out.mono ?_
      rintro e w7 h7
      rcases h7 with ⟨L, vE, hok, hbs, rfl, hlE, hbE, hc7⟩ | ⟨hno, rfl, hc7⟩
      · obtain ⟨aE, cE, rfl, -⟩ := hlE.form
        rw [i64s_length, ens_len] at hlE hbE ⊢
        have hK1 : L.length ≤ 100000 := by
          have h8 := frs_ge hok
          have h9 := HBL.out
          rw [hbs] at h9
          omega
        obtain ⟨nL, HNL⟩ : ∃ nL, Hid (L.length = nL) := ⟨_, Lib.hid rfl⟩
        rw [HNL.out] at hlE hbE hK1 ⊢
        have hCW : Chg [] w7 (w7.alloc (.cells #[.int .i64 (x : Int), .slice a6 y c6, .slice aE nL cE] 137)) := (Chg.refl [] w7).alloc _
        obtain ⟨W8, HW8⟩ : ∃ W8, Hid (w7.alloc (.cells #[.int .i64 (x : Int), .slice a6 y c6, .slice aE nL cE] 137) = W8) := ⟨_, Lib.hid rfl⟩
        rw [HW8.out] at hCW
        have hQ8 : Own W8 w7.heap.size 137 [.int .i64 (x : Int), .slice a6 y c6, .slice aE nL cE] := by rw [← HW8.out]; exact Own.new w7 _ _
        have hc68 := hc7.trans hCW
        have hP8 := HP6.out.chg hc68 (by simp)
        have hO8 := HO6.out.chg hc68 (by simp)
        have hlF8 := HL6.out.kept0 hc68
        have hlE8 := hlE.kept0 hCW
        have HX8 := Lib.hid (And.intro hO8 (And.intro hlF8 (And.intro hlE8 (HC6.out.trans hc68))))
        have d0 := hP8.cell 0
        have d1 := hP8.cell 1
        have d2 := hP8.cell 2
        have q0 := hQ8.cell 0
        have q1 := hQ8.cell 1
        have q2 := hQ8.cell 2
        simp at d0 d1 d2 q0 q1 q2
        have HCE := Lib.hid (And.intro d0 (And.intro d1 (And.intro d2 (And.intro q0 (And.intro q1 q2)))))
        have HOK := Lib.hid (And.intro hok hbs)
        have HBE := Lib.hid (And.intro hbE hc7.size)
        have HSU := Lib.hid (fun W => super_any W x a6 aE y c6 nL cE hx1 (by omega) hb)
        clear hCW hQ8 hc68 hP8 hO8 hlF8 hlE8 hlE hbE hok hbs d0 d1 d2 q0 q1 q2 z0
        go_wp2_with fail
        simp only [HW8.out]
        have HOP := Lib.hid (show ∀ h2 L2, Opens n (now F m) h2 L2 → L2 = L ∧ nL = r from fun h2 L2 o => by
          obtain ⟨e1, e2, e3, _, _⟩ := opens_sup ht o
          rw [HSS.out, HX.out] at e1
          rw [HSS.out, HR.out] at e2
          rw [HSS.out, HY.out] at e3
          have h8 := opens_bytes HD.out.lenN o.room (h := h2)
          rw [o.bytes, e3, e1, HBS.out, HOK.out.2] at h8
          have h9 := frs_inj HOK.out.1 o.ok h8
          subst h9
          exact ⟨rfl, by rw [← HNL.out, e2]⟩)
        by_cases hKr : nL = r
        case' pos =>
          have he : ((nL : Int) == (r : Int)) = true := by simp; omega
          have HKR := Lib.hid hKr
          clear hKr
          refine wp_region_held_drew (S := (fun w' => w'.cell? ⟨w4.heap.size, 0, none⟩ = some (.int .u8 (x : Int)) ∧ w'.cell? ⟨w4.heap.size, 1, none⟩ = some (.int .u32 (r : Int)) ∧ w'.cell? ⟨w4.heap.size, 2, none⟩ = some (.int .u32 (y : Int)) ∧ w'.cell? ⟨w7.heap.size, 0, none⟩ = some (.int .i64 (x : Int)) ∧ w'.cell? ⟨w7.heap.size, 1, none⟩ = some (.slice a6 y c6) ∧ w'.cell? ⟨w7.heap.size, 2, none⟩ = some (.slice aE nL cE))) (by kernel_rfl) HCE.out (fun hHeld => ?_)
          refine wpAnyH_take (i := 0) (v := ?_) rfl (by kernel_rfl) (by kernel_rfl) (by kernel_rfl) (fun _ _ _ h => h) (Or.inl ⟨by kernel_rfl, ?_⟩) hHeld ?_
          rotate_left
          · (intro w hSw; first | (go_simp; done) | (go_simp; with_reducible rfl))
          (try simp only [Act.put, List.getElem_toArray, List.getElem_cons_succ, List.getElem_cons_zero, List.setIfInBounds_toArray, List.set_cons_zero, List.set_cons_succ])
          refine wpAnyH_take (i := 1) (v := ?_) rfl (by kernel_rfl) (by kernel_rfl) (by kernel_rfl) (fun _ _ _ h => h) (Or.inl ⟨by kernel_rfl, ?_⟩) hHeld ?_
          rotate_left
          · (intro w hSw; first | (go_simp; done) | (go_simp; with_reducible rfl))
          (try simp only [Act.put, List.getElem_toArray, List.getElem_cons_succ, List.getElem_cons_zero, List.setIfInBounds_toArray, List.set_cons_zero, List.set_cons_succ])
          refine wpAnyH_take (i := 2) (v := ?_) rfl (by kernel_rfl) (by kernel_rfl) (by kernel_rfl) (fun _ _ _ h => h) (Or.inl ⟨by kernel_rfl, ?_⟩) hHeld ?_
          rotate_left
          · (intro w hSw; first | (go_simp; done) | (go_simp; with_reducible rfl))
          (try simp only [Act.put, List.getElem_toArray, List.getElem_cons_succ, List.getElem_cons_zero, List.setIfInBounds_toArray, List.set_cons_zero, List.set_cons_succ])
          refine wpAnyH_take (i := 3) (v := ?_) rfl (by kernel_rfl) (by kernel_rfl) (by kernel_rfl) (fun _ _ _ h => h) (Or.inl ⟨by kernel_rfl, ?_⟩) hHeld ?_
          rotate_left
          · (intro w hSw; first | (go_simp; done) | (go_simp; with_reducible rfl))
          (try simp only [Act.put, List.getElem_toArray, List.getElem_cons_succ, List.getElem_cons_zero, List.setIfInBounds_toArray, List.set_cons_zero, List.set_cons_succ])
          refine wpAnyH_take (i := 5) (v := ?_) rfl (by kernel_rfl) (by kernel_rfl) (by kernel_rfl) (fun _ _ _ h => h) (Or.inl ⟨by kernel_rfl, ?_⟩) hHeld ?_
          rotate_left
          · (intro w hSw; first | (go_simp; done) | (go_simp; with_reducible rfl))
          (try simp only [Act.put, List.getElem_toArray, List.getElem_cons_succ, List.getElem_cons_zero, List.setIfInBounds_toArray, List.set_cons_zero, List.set_cons_succ])
          refine wpAnyH_ready (rs := [4]) (by kernel_rfl) (by simp) (AllReadyH.cons rfl (fun K hK => ?_) AllReadyH.nil)
          have hH := hHeld
          (go_simp; go_at_call 64; refine (HSU.out _).mono ?_; rintro e w9 ⟨rfl, hc9⟩)
          refine hK.out _ _ (by exact ⟨hc9.cell hH.1 (by simp), hc9.cell hH.2.1 (by simp), hc9.cell hH.2.2.1 (by simp), hc9.cell hH.2.2.2.1 (by simp), hc9.cell hH.2.2.2.2.1 (by simp), hc9.cell hH.2.2.2.2.2 (by simp)⟩) (fun hHq1 => ?_)
          clear hK K hH 
          (try simp only [Act.put, List.getElem_toArray, List.getElem_cons_succ, List.getElem_cons_zero, List.setIfInBounds_toArray, List.set_cons_zero, List.set_cons_succ])
          refine wpAnyH_take (i := 6) (v := ?_) rfl (by kernel_rfl) (by kernel_rfl) (by kernel_rfl) (fun _ _ _ h => h) (Or.inl ⟨by kernel_rfl, ?_⟩) hHq1 ?_
          rotate_left
          · (intro w hSw; first | (go_simp; done) | (go_simp; with_reducible rfl))
          (try simp only [Act.put, List.getElem_toArray, List.getElem_cons_succ, List.getElem_cons_zero, List.setIfInBounds_toArray, List.set_cons_zero, List.set_cons_succ])
          refine wpAnyH_take (i := 7) (v := ?_) rfl (by kernel_rfl) (by kernel_rfl) (by kernel_rfl) (fun _ _ _ h => h) (Or.inl ⟨by kernel_rfl, ?_⟩) hHq1 ?_
          rotate_left
          · (intro w hSw; first | (go_simp; done) | (go_simp; with_reducible rfl))
          (try simp only [Act.put, List.getElem_toArray, List.getElem_cons_succ, List.getElem_cons_zero, List.setIfInBounds_toArray, List.set_cons_zero, List.set_cons_succ])
          refine wpAnyH_done (by kernel_rfl) ?_ _
          have hEnd := hHq1
          have hC89 : Chg [] W8 w9 := ((Chg.refl [] W8).drew).trans hc9
          have hX9 := HX8.out
          have hO9 := hX9.1.chg hC89 (by simp)
          have o1 := hO9.cell 1
          have o2 := hO9.cell 2
          have o3 := hO9.cell 3
          have o4 := hO9.cell 4
          have o5 := hO9.cell 5
          have o6 := hO9.cell 6
          have f1 := hO9.frozen 1
          have f2 := hO9.frozen 2
          have f3 := hO9.frozen 3
          have f4 := hO9.frozen 4
          have f5 := hO9.frozen 5
          have f6 := hO9.frozen 6
          simp at o1 o2 o3 o4 o5 o6
          have HC9 := Lib.hid hHq1.2.2.2
          have HO9 := Lib.hid hO9
          have HX9 := Lib.hid (And.intro (hX9.2.1.kept0 hC89) (And.intro (hX9.2.2.1.kept0 hC89) (hX9.2.2.2.trans hC89)))
          have hq7 : w7.heap.size ≠ w.heap.size := by
            have h8 := HO6.out.lt
            have h9 := HBE.out.2
            omega
          clear hEnd hHeld hHq1 hX9 hO9 hc9 hC89 he
          go_wp2_with fail
          refine wp_region_held_drew (S := (fun w' => w'.cell? ⟨w7.heap.size, 0, none⟩ = some (.int .i64 (x : Int)) ∧ w'.cell? ⟨w7.heap.size, 1, none⟩ = some (.slice a6 y c6) ∧ w'.cell? ⟨w7.heap.size, 2, none⟩ = some (.slice aE nL cE))) (by kernel_rfl) HC9.out (fun hHeld => ?_)
          refine wpAnyH_take (i := 0) (v := ?_) rfl (by kernel_rfl) (by kernel_rfl) (by kernel_rfl) (fun _ _ _ h => h) (Or.inl ⟨by kernel_rfl, ?_⟩) hHeld ?_
          rotate_left
          · (intro w hSw; first | (go_simp; done) | (go_simp; with_reducible rfl))
          (try simp only [Act.put, List.getElem_toArray, List.getElem_cons_succ, List.getElem_cons_zero, List.setIfInBounds_toArray, List.set_cons_zero, List.set_cons_succ])
          refine wpAnyH_take (i := 1) (v := ?_) rfl (by kernel_rfl) (by kernel_rfl) (by kernel_rfl) (fun _ _ _ h => h) (Or.inl ⟨by kernel_rfl, ?_⟩) hHeld ?_
          rotate_left
          · (intro w hSw; first | (go_simp; done) | (go_simp; with_reducible rfl))
          (try simp only [Act.put, List.getElem_toArray, List.getElem_cons_succ, List.getElem_cons_zero, List.setIfInBounds_toArray, List.set_cons_zero, List.set_cons_succ])
          refine wpAnyH_take (i := 2) (v := ?_) rfl (by kernel_rfl) (by kernel_rfl) (by kernel_rfl) (fun _ _ _ h => h) (Or.inl ⟨by kernel_rfl, ?_⟩) hHeld ?_
          rotate_left
          · (intro w hSw; first | (go_simp; done) | (go_simp; with_reducible rfl))
          (try simp only [Act.put, List.getElem_toArray, List.getElem_cons_succ, List.getElem_cons_zero, List.setIfInBounds_toArray, List.set_cons_zero, List.set_cons_succ])
          refine wpAnyH_take (i := 3) (v := ?_) rfl (by kernel_rfl) (by kernel_rfl) (by kernel_rfl) (fun _ _ _ h => h) (Or.inl ⟨by kernel_rfl, ?_⟩) hHeld ?_
          rotate_left
          · (intro w hSw; first | (go_simp; done) | (go_simp; with_reducible rfl))
          (try simp only [Act.put, List.getElem_toArray, List.getElem_cons_succ, List.getElem_cons_zero, List.setIfInBounds_toArray, List.set_cons_zero, List.set_cons_succ])
          refine wpAnyH_take (i := 4) (v := ?_) rfl (by kernel_rfl) (by kernel_rfl) (by kernel_rfl) (fun _ _ _ h => h) (Or.inl ⟨by kernel_rfl, ?_⟩) hHeld ?_
          rotate_left
          · (intro w hSw; first | (go_simp; done) | (go_simp; with_reducible rfl))
          (try simp only [Act.put, List.getElem_toArray, List.getElem_cons_succ, List.getElem_cons_zero, List.setIfInBounds_toArray, List.set_cons_zero, List.set_cons_succ])
          refine wpAnyH_take (i := 5) (v := ?_) rfl (by kernel_rfl) (by kernel_rfl) (by kernel_rfl) (fun _ _ _ h => h) (Or.inl ⟨by kernel_rfl, ?_⟩) hHeld ?_
          rotate_left
          · (intro w hSw; first | (go_simp; done) | (go_simp; with_reducible rfl))
          (try simp only [Act.put, List.getElem_toArray, List.getElem_cons_succ, List.getElem_cons_zero, List.setIfInBounds_toArray, List.set_cons_zero, List.set_cons_succ])
          refine wpAnyH_ready (rs := [6]) (by kernel_rfl) (by simp) (AllReadyH.cons rfl (fun K hK => ?_) AllReadyH.nil)
          have hH := hHeld
          (go_simp; refine gen_w2 (fun W => Chg [w.heap.size] w9 W ∧ Own W w.heap.size 139 [.pointer (some ⟨p, 0, none⟩), .int .i64 (x : Int), .slice a6 y c6, .slice aE nL cE, .int .i64 0, .slice none 0 0, .slice none 0 0, .int .i64 0]) ⟨(((((Chg.refl _ w9).setCell (by simp) _).setCell (by simp) _).setCell (by simp) _).drew), ((HO9.out.set 1 (.int .i64 (x : Int))).set 2 (.slice a6 y c6)).set 3 (.slice aE nL cE)⟩ (fun W10 h10 => ?_))
          refine hK.out _ _ (by exact ⟨h10.1.cell HC9.out.1 (by simp; exact hq7), h10.1.cell HC9.out.2.1 (by simp; exact hq7), h10.1.cell HC9.out.2.2 (by simp; exact hq7)⟩) (fun hHq1 => ?_)
          clear hK K hH 
          have HO10 := Lib.hid h10.2; have HC10 := Lib.hid h10.1; clear o1 o2 o3 o4 o5 o6 f1 f2 f3 f4 f5 f6; have o4 := HO10.out.cell 4; have o5 := HO10.out.cell 5; have o6 := HO10.out.cell 6; have f4 := HO10.out.frozen 4; have f5 := HO10.out.frozen 5; have f6 := HO10.out.frozen 6; simp at o4 o5 o6; clear h10
          (try simp only [Act.put, List.getElem_toArray, List.getElem_cons_succ, List.getElem_cons_zero, List.setIfInBounds_toArray, List.set_cons_zero, List.set_cons_succ])
          refine wpAnyH_take (i := 7) (v := ?_) rfl (by kernel_rfl) (by kernel_rfl) (by kernel_rfl) (fun _ _ _ h => h) (Or.inl ⟨by kernel_rfl, ?_⟩) hHq1 ?_
          rotate_left
          · (intro w hSw; first | (go_simp; done) | (go_simp; with_reducible rfl))
          (try simp only [Act.put, List.getElem_toArray, List.getElem_cons_succ, List.getElem_cons_zero, List.setIfInBounds_toArray, List.set_cons_zero, List.set_cons_succ])
          refine wpAnyH_take (i := 8) (v := ?_) rfl (by kernel_rfl) (by kernel_rfl) (by kernel_rfl) (fun _ _ _ h => h) (Or.inl ⟨by kernel_rfl, ?_⟩) hHq1 ?_
          rotate_left
          · (intro w hSw; first | (go_simp; done) | (go_simp; with_reducible rfl))
          (try simp only [Act.put, List.getElem_toArray, List.getElem_cons_succ, List.getElem_cons_zero, List.setIfInBounds_toArray, List.set_cons_zero, List.set_cons_succ])
          refine wpAnyH_ready (rs := [9]) (by kernel_rfl) (by simp) (AllReadyH.cons rfl (fun K hK => ?_) AllReadyH.nil)
          have hH := hHq1
          (go_simp; refine gen_w2 (fun W => Chg [w.heap.size] w9 W ∧ Own W w.heap.size 139 [.pointer (some ⟨p, 0, none⟩), .int .i64 (x : Int), .slice a6 y c6, .slice aE nL cE, .int .i64 (x : Int), .slice a6 y c6, .slice aE nL cE, .int .i64 0]) ⟨(((HC10.out.setCell (by simp) _).setCell (by simp) _).setCell (by simp) _), ((HO10.out.set 4 (.int .i64 (x : Int))).set 5 (.slice a6 y c6)).set 6 (.slice aE nL cE)⟩ (fun W11 h11 => ?_))
          refine hK.out _ _ (by exact ⟨h11.1.cell HC9.out.1 (by simp; exact hq7), h11.1.cell HC9.out.2.1 (by simp; exact hq7), h11.1.cell HC9.out.2.2 (by simp; exact hq7)⟩) (fun hHq2 => ?_)
          clear hK K hH hHq1
          (try simp only [Act.put, List.getElem_toArray, List.getElem_cons_succ, List.getElem_cons_zero, List.setIfInBounds_toArray, List.set_cons_zero, List.set_cons_succ])
          refine wpAnyH_done (by kernel_rfl) ?_ _
          have hEnd := hHq2
          clear hEnd hHeld o4 o5 o6 f4 f5 f6
          have HH11 := Lib.hid h11
          clear h11
          go_wp2_with fail
          go_ret2
          obtain ⟨hlF, hlE, hcx⟩ := HX9.out
          have hy : (frs L).length = y := by rw [← HOK.out.2]; exact HBL.out
          have hchg : Chg [] w W11 := hcx.then HH11.out.1 (by simp)
          have hlow : ∀ z ∈ w.heap.size :: (bl (.slice a6 y c6) ++ bl (.slice aE nL cE)), w.heap.size ≤ z := fun z hz => by
            rcases List.mem_cons.1 hz with rfl | hz
            · exact Nat.le_refl _
            · rcases List.mem_append.1 hz with hz | hz
              · exact Nat.le_trans (HC5.out.drewN 0).size (HB6.out z hz)
              · exact Nat.le_trans HC6.out.size (HBE.out.1 z hz)
          have hnq : ∀ v : Value, (v = .slice a6 y c6 ∨ v = .slice aE nL cE) → ∀ g, v.ownBlock = some g → g ∉ [w.heap.size] := fun v hv g hg hm => by
            have hm2 : g = w.heap.size := by simpa using hm
            subst hm2
            rcases hv with rfl | rfl
            · obtain ⟨c, hc⟩ := hlF.typ hg
              have := HO9.out
              unfold Own at this
              rw [hc] at this
              cases this
            · obtain ⟨c, hc⟩ := hlE.typ hg
              have := HO9.out
              unfold Own at this
              rw [hc] at this
              cases this
          have hlF2 := hlF.chg HH11.out.1 (hnq _ (.inl rfl))
          have hlE2 := hlE.chg HH11.out.1 (hnq _ (.inr rfl))
          rw [HOK.out.2] at hlF2
          refine .inl ⟨x, L, _, w.heap.size :: (bl (.slice a6 y c6) ++ bl (.slice aE nL cE)), ⟨hx1, HOK.out.1, ?_, ?_, ?_⟩, rfl, ⟨_, _, _, _, HH11.out.2, hlF2, hlE2, hlF2, hlE2, fun _ _ _ => Nat.le_refl _, fun _ _ _ => Nat.le_refl _, by simp, ?_, hx1, hx1, by omega, HOK.out.1, HOK.out.1, ?_, ?_, fun _ => ⟨[], by simp⟩, by omega⟩, hlow, hchg⟩
          · rw [hy, HSZ.out]; omega
          · rw [HSS.out, hy, HNL.out, HKR.out]; exact HSUP.out.symm
          · rw [← opens_bytes HD.out.lenN (by rw [hy, HSZ.out]; omega), hy, HBS.out]; exact HOK.out.2
          · rintro z (hz | hz | hz | hz) <;> simp [hz]
          · rw [hy, HSZ.out]; omega
          · rw [hy, HSZ.out]; omega
        case' neg =>
          have he : ((nL : Int) == (r : Int)) = false := by simp; omega
          have HKR := Lib.hid hKr
          clear hKr
          refine wp_region_held_drew (S := (fun w' => w'.cell? ⟨w4.heap.size, 0, none⟩ = some (.int .u8 (x : Int)) ∧ w'.cell? ⟨w4.heap.size, 1, none⟩ = some (.int .u32 (r : Int)) ∧ w'.cell? ⟨w4.heap.size, 2, none⟩ = some (.int .u32 (y : Int)) ∧ w'.cell? ⟨w7.heap.size, 0, none⟩ = some (.int .i64 (x : Int)) ∧ w'.cell? ⟨w7.heap.size, 1, none⟩ = some (.slice a6 y c6) ∧ w'.cell? ⟨w7.heap.size, 2, none⟩ = some (.slice aE nL cE))) (by kernel_rfl) HCE.out (fun hHeld => ?_)
          refine wpAnyH_take (i := 0) (v := ?_) rfl (by kernel_rfl) (by kernel_rfl) (by kernel_rfl) (fun _ _ _ h => h) (Or.inl ⟨by kernel_rfl, ?_⟩) hHeld ?_
          rotate_left
          · (intro w hSw; first | (go_simp; done) | (go_simp; with_reducible rfl))
          (try simp only [Act.put, List.getElem_toArray, List.getElem_cons_succ, List.getElem_cons_zero, List.setIfInBounds_toArray, List.set_cons_zero, List.set_cons_succ])
          refine wpAnyH_take (i := 1) (v := ?_) rfl (by kernel_rfl) (by kernel_rfl) (by kernel_rfl) (fun _ _ _ h => h) (Or.inl ⟨by kernel_rfl, ?_⟩) hHeld ?_
          rotate_left
          · (intro w hSw; first | (go_simp; done) | (go_simp; with_reducible rfl))
          (try simp only [Act.put, List.getElem_toArray, List.getElem_cons_succ, List.getElem_cons_zero, List.setIfInBounds_toArray, List.set_cons_zero, List.set_cons_succ])
          refine wpAnyH_take (i := 2) (v := ?_) rfl (by kernel_rfl) (by kernel_rfl) (by kernel_rfl) (fun _ _ _ h => h) (Or.inl ⟨by kernel_rfl, ?_⟩) hHeld ?_
          rotate_left
          · (intro w hSw; first | (go_simp; done) | (go_simp; with_reducible rfl))
          (try simp only [Act.put, List.getElem_toArray, List.getElem_cons_succ, List.getElem_cons_zero, List.setIfInBounds_toArray, List.set_cons_zero, List.set_cons_succ])
          refine wpAnyH_take (i := 3) (v := ?_) rfl (by kernel_rfl) (by kernel_rfl) (by kernel_rfl) (fun _ _ _ h => h) (Or.inl ⟨by kernel_rfl, ?_⟩) hHeld ?_
          rotate_left
          · (intro w hSw; first | (go_simp; done) | (go_simp; with_reducible rfl))
          (try simp only [Act.put, List.getElem_toArray, List.getElem_cons_succ, List.getElem_cons_zero, List.setIfInBounds_toArray, List.set_cons_zero, List.set_cons_succ])
          refine wpAnyH_take (i := 5) (v := ?_) rfl (by kernel_rfl) (by kernel_rfl) (by kernel_rfl) (fun _ _ _ h => h) (Or.inl ⟨by kernel_rfl, ?_⟩) hHeld ?_
          rotate_left
          · (intro w hSw; first | (go_simp; done) | (go_simp; with_reducible rfl))
          (try simp only [Act.put, List.getElem_toArray, List.getElem_cons_succ, List.getElem_cons_zero, List.setIfInBounds_toArray, List.set_cons_zero, List.set_cons_succ])
          refine wpAnyH_ready (rs := [4]) (by kernel_rfl) (by simp) (AllReadyH.cons rfl (fun K hK => ?_) AllReadyH.nil)
          have hH := hHeld
          (go_simp; go_at_call 64; refine (HSU.out _).mono ?_; rintro e w9 ⟨rfl, hc9⟩)
          refine hK.out _ _ (by exact ⟨hc9.cell hH.1 (by simp), hc9.cell hH.2.1 (by simp), hc9.cell hH.2.2.1 (by simp), hc9.cell hH.2.2.2.1 (by simp), hc9.cell hH.2.2.2.2.1 (by simp), hc9.cell hH.2.2.2.2.2 (by simp)⟩) (fun hHq1 => ?_)
          clear hK K hH 
          (try simp only [Act.put, List.getElem_toArray, List.getElem_cons_succ, List.getElem_cons_zero, List.setIfInBounds_toArray, List.set_cons_zero, List.set_cons_succ])
          refine wpAnyH_take (i := 6) (v := ?_) rfl (by kernel_rfl) (by kernel_rfl) (by kernel_rfl) (fun _ _ _ h => h) (Or.inl ⟨by kernel_rfl, ?_⟩) hHq1 ?_
          rotate_left
          · (intro w hSw; first | (go_simp; done) | (go_simp; with_reducible rfl))
          (try simp only [Act.put, List.getElem_toArray, List.getElem_cons_succ, List.getElem_cons_zero, List.setIfInBounds_toArray, List.set_cons_zero, List.set_cons_succ])
          refine wpAnyH_take (i := 7) (v := ?_) rfl (by kernel_rfl) (by kernel_rfl) (by kernel_rfl) (fun _ _ _ h => h) (Or.inl ⟨by kernel_rfl, ?_⟩) hHq1 ?_
          rotate_left
          · (intro w hSw; first | (go_simp; done) | (go_simp; with_reducible rfl))
          (try simp only [Act.put, List.getElem_toArray, List.getElem_cons_succ, List.getElem_cons_zero, List.setIfInBounds_toArray, List.set_cons_zero, List.set_cons_succ])
          refine wpAnyH_done (by kernel_rfl) ?_ _
          have hEnd := hHq1
          have hC89 : Chg [] W8 w9 := ((Chg.refl [] W8).drew).trans hc9
          clear hEnd hHeld hHq1 hc9
          go_wp2_with fail
          go_ret2
          refine .inr ⟨fun h2 L2 o => HKR.out (HOP.out h2 L2 o).2, rfl, HX8.out.2.2.2.trans hC89⟩
      · have HNO := Lib.hid hno
        have hcc := HC6.out.trans hc7
        have HCC := Lib.hid hcc
        clear hno hcc z0
        go_wp2_with fail
        go_quiet (fail)
        go_wp2
        go_ret2
        refine .inr ⟨fun h2 L2 o => ?_, rfl, ((HCC.out.alloc _).drewN _)⟩
        obtain ⟨e1, e2, e3, _, _⟩ := opens_sup ht o
        rw [HSS.out, HX.out] at e1
        rw [HSS.out, HY.out] at e3
        have h8 := opens_bytes HD.out.lenN o.room (h := h2)
        rw [o.bytes, e3, e1, HBS.out] at h8
        exact HNO.out L2 o.ok h8
end Go.Proofs.YtihbinphmlgjoaaGreat
namespace Go.Proofs.YtihbinphmlgjoaaGreat
open Go.RowKit Go.Deep
set_option linter.unusedVariables false
set_option linter.unusedSimpArgs false

theorem Lst.sl {w : World} {base : Nat} {e : TypeId} {v : Value} {xs : List Value} (h : Lst w base e v xs) : ∃ a c, v = .slice a xs.length c := by
  obtain ⟨a, c, h, _⟩ := h.form
  exact ⟨a, c, h⟩
theorem Lst.sl8 {w : World} {base : Nat} {e : TypeId} {v : Value} {bs : List UInt8} (h : Lst w base e v (u8s bs)) : ∃ a c, v = .slice a bs.length c := by
  obtain ⟨a, c, h⟩ := h.sl
  rw [u8s_length] at h
  exact ⟨a, c, h⟩
theorem Lst.slE {w : World} {base : Nat} {e : TypeId} {v : Value} {L : List Rec} (h : Lst w base e v (i64s (ens L))) : ∃ a c, v = .slice a L.length c := by
  obtain ⟨a, c, h⟩ := h.sl
  rw [i64s_length, ens_len] at h
  exact ⟨a, c, h⟩
section
variable {w : World} {l : List Nat} {q p n h h' : Nat} {L L' : List Rec} {k : Nat} {vF vE vF' vE' : Value}
theorem TpV.len_le (t : TpV w l q p n h h' L L' k vF vE vF' vE') (hn : n ≤ 1024) : (frs L).length ≤ 100000 ∧ (frs L').length ≤ 100000 ∧ L.length ≤ 100000 ∧ L'.length ≤ 100000 := by
  have h1 := t.room
  have h2 := t.room'
  have h3 := frs_ge t.ok
  have h4 := frs_ge t.ok'
  unfold hsec at h1 h2
  omega
theorem committing_any (t : TpV w l q p n h h' L L' k vF vE vF' vE') :
    Calls Tryz.prog 87 #[.pointer (some ⟨q, 0, none⟩)] w fun e w' => e = .returned (.bool (decide (0 < k))) ∧ w = w' := by
  have c7 := t.own.cell 7
  simp at c7
  clear t
  by_cases hk : 0 < k
  · have e1 : decide ((0 : Int) < (k : Int)) = true := by simp; omega
    rw [decide_eq_true hk]
    go_enter Tryz.func87, Tryz.ntmps87
    go_wp2
    go_ret
    exact ⟨rfl, rfl⟩
  · have e1 : decide ((0 : Int) < (k : Int)) = false := by simp; omega
    rw [decide_eq_false hk]
    go_enter Tryz.func87, Tryz.ntmps87
    go_wp2
    go_ret
    exact ⟨rfl, rfl⟩
theorem replacing_any (t : TpV w l q p n h h' L L' k vF vE vF' vE') :
    Calls Tryz.prog 88 #[.pointer (some ⟨q, 0, none⟩)] w fun e w' => e = .returned (.bool (decide (h ≠ h'))) ∧ Qt w w' := by
  have c1 := t.own.cell 1
  have c4 := t.own.cell 4
  simp at c1 c4
  clear t
  by_cases hk : h = h'
  · have e1 : ((h' : Int) == (h : Int)) = true := by simp; omega
    have e2 : ((h' : Int) != (h : Int)) = false := by simp; omega
    rw [decide_eq_false (show ¬ h ≠ h' from fun x => x hk)]
    clear hk
    go_enter Tryz.func88, Tryz.ntmps88
    go_wp2
    go_quiet (fail)
    go_wp2
    go_ret
    exact ⟨rfl, Qt.drewN _ _⟩
  · have e1 : ((h' : Int) == (h : Int)) = false := by simp; omega
    have e2 : ((h' : Int) != (h : Int)) = true := by simp; omega
    rw [decide_eq_true (show h ≠ h' from hk)]
    go_enter Tryz.func88, Tryz.ntmps88
    go_wp2
    go_quiet (fail)
    go_wp2
    go_ret
    exact ⟨rfl, Qt.drewN _ _⟩
theorem len_tape_nil (w : World) : Calls Tryz.prog 31 #[.pointer none] w fun e w' => e = .returned (.int .i64 0) ∧ w = w' := by
  go_enter Tryz.func31, Tryz.ntmps31
  go_wp2
  go_ret
  exact ⟨rfl, rfl⟩
theorem waiting_nil (w : World) : Calls Tryz.prog 133 #[.pointer none] w fun e w' => e = .returned (.int .i64 0) ∧ w = w' := by
  go_enter Tryz.func133, Tryz.ntmps133
  go_wp2
  go_ret
  exact ⟨rfl, rfl⟩
theorem room_nil (w : World) : Calls Tryz.prog 90 #[.pointer none] w fun e w' => e = .returned (.int .i64 0) ∧ w = w' := by
  go_enter Tryz.func90, Tryz.ntmps90
  go_wp2
  go_ret
  exact ⟨rfl, rfl⟩
theorem len_tape (t : TpV w l q p n h h' L L' k vF vE vF' vE') :
    Calls Tryz.prog 31 #[.pointer (some ⟨q, 0, none⟩)] w fun e w' => e = .returned (.int .i64 (L.length : Int)) ∧ Chg [] w w' := by
  obtain ⟨aF, cF, rfl⟩ := t.fr.sl8
  obtain ⟨aE, cE, rfl⟩ := t.en.slE
  have c1 := t.own.cell 1
  have c2 := t.own.cell 2
  have c3 := t.own.cell 3
  simp at c1 c2 c3
  clear t
  go_enter Tryz.func31, Tryz.ntmps31
  go_wp2_with (first | (go_at_call 65; refine (records_any _ h _ aE L.length cE).mono ?_; rintro e w' ⟨rfl, hc⟩) | fail)
  go_ret
  exact ⟨rfl, hc⟩
/-- how many wait -/
def waitN (h h' : Nat) (L L' : List Rec) : Nat := if h = h' then L'.length - L.length else L'.length
set_option maxRecDepth 100000 in
theorem waiting_tape (t : TpV w l q p n h h' L L' k vF vE vF' vE') (hn : n ≤ 1024) :
    Calls Tryz.prog 133 #[.pointer (some ⟨q, 0, none⟩)] w fun e w' => e = .returned (.int .i64 ((waitN h h' L L' : Nat) : Int)) ∧ Chg [] w w' := by
  have HR := Lib.hid (replacing_any t)
  have hle := t.len_le hn
  have hpre := t.pre
  obtain ⟨aF, cF, rfl⟩ := t.fr.sl8
  obtain ⟨aE, cE, rfl⟩ := t.en.slE
  obtain ⟨aF', cF', rfl⟩ := t.fr'.sl8
  obtain ⟨aE', cE', rfl⟩ := t.en'.slE
  obtain ⟨NF, HNF⟩ : ∃ N, Hid ((frs L).length = N) := ⟨_, Lib.hid rfl⟩
  obtain ⟨NF', HNF'⟩ : ∃ N, Hid ((frs L').length = N) := ⟨_, Lib.hid rfl⟩
  obtain ⟨NL, HNL⟩ : ∃ N, Hid (L.length = N) := ⟨_, Lib.hid rfl⟩
  obtain ⟨NL', HNL'⟩ : ∃ N, Hid (L'.length = N) := ⟨_, Lib.hid rfl⟩
  have HW := Lib.hid (show waitN h h' L L' = if h = h' then NL' - NL else NL' by unfold waitN; rw [HNL.out, HNL'.out])
  have HT := Lib.hid t
  have hle3 := hle.2.2
  rw [HNL.out, HNL'.out] at hle3
  have hll : h = h' → NL ≤ NL' := fun e => by
    obtain ⟨W, hW⟩ := hpre e
    rw [← HNL.out, ← HNL'.out, hW, List.length_append]
    omega
  rw [HNF.out, HNF'.out, HNL.out, HNL'.out] at HT
  clear t hle hpre
  by_cases hk : h = h'
  · have hll2 := hll hk
    have hd : decide (h ≠ h') = false := decide_eq_false (fun x => x hk)
    rw [hd] at HR
    have HW2 := Lib.hid (show waitN h h' L L' = NL' - NL by rw [HW.out, if_pos hk])
    rw [HW2.out]
    clear hk hll hd
    go_enter Tryz.func133, Tryz.ntmps133
    go_wp2_with fail
    refine HR.out.mono ?_
    rintro e w1 ⟨rfl, hq1⟩
    have HQ1 := Lib.hid hq1
    have ho := HT.out.own.qt hq1
    have c1 := ho.cell 1
    have c2 := ho.cell 2
    have c3 := ho.cell 3
    have c4 := ho.cell 4
    have c5 := ho.cell 5
    have c6 := ho.cell 6
    simp at c1 c2 c3 c4 c5 c6
    have HC := Lib.hid (And.intro c1 (And.intro c2 (And.intro c3 (And.intro c4 (And.intro c5 c6)))))
    have e1 : IntKind.i64.wrap ((NL' : Int) - (NL : Int)) = ((NL' - NL : Nat) : Int) := by rw [IntWalk.i64_in _ (by omega)]; omega
    clear hq1 ho c1 c2 c3 c4 c5 c6
    go_wp2_with fail
    refine wp_region_held_drew (S := (fun w' => w'.cell? ⟨q, 1, none⟩ = some (.int .i64 (h : Int)) ∧ w'.cell? ⟨q, 2, none⟩ = some (.slice aF NF cF) ∧ w'.cell? ⟨q, 3, none⟩ = some (.slice aE NL cE) ∧ w'.cell? ⟨q, 4, none⟩ = some (.int .i64 (h' : Int)) ∧ w'.cell? ⟨q, 5, none⟩ = some (.slice aF' NF' cF') ∧ w'.cell? ⟨q, 6, none⟩ = some (.slice aE' NL' cE'))) (by kernel_rfl) HC.out (fun hHeld => ?_)
    refine wpAnyH_take (i := 0) (v := ?_) rfl (by kernel_rfl) (by kernel_rfl) (by kernel_rfl) (fun _ _ _ h => h) (Or.inl ⟨by kernel_rfl, ?_⟩) hHeld ?_
    rotate_left
    · (intro w hSw; first | (go_simp; done) | (go_simp; with_reducible rfl))
    (try simp only [Act.put, List.getElem_toArray, List.getElem_cons_succ, List.getElem_cons_zero, List.setIfInBounds_toArray, List.set_cons_zero, List.set_cons_succ])
    refine wpAnyH_take (i := 1) (v := ?_) rfl (by kernel_rfl) (by kernel_rfl) (by kernel_rfl) (fun _ _ _ h => h) (Or.inl ⟨by kernel_rfl, ?_⟩) hHeld ?_
    rotate_left
    · (intro w hSw; first | (go_simp; done) | (go_simp; with_reducible rfl))
    (try simp only [Act.put, List.getElem_toArray, List.getElem_cons_succ, List.getElem_cons_zero, List.setIfInBounds_toArray, List.set_cons_zero, List.set_cons_succ])
    refine wpAnyH_take (i := 2) (v := ?_) rfl (by kernel_rfl) (by kernel_rfl) (by kernel_rfl) (fun _ _ _ h => h) (Or.inl ⟨by kernel_rfl, ?_⟩) hHeld ?_
    rotate_left
    · (intro w hSw; first | (go_simp; done) | (go_simp; with_reducible rfl))
    (try simp only [Act.put, List.getElem_toArray, List.getElem_cons_succ, List.getElem_cons_zero, List.setIfInBounds_toArray, List.set_cons_zero, List.set_cons_succ])
    refine wpAnyH_take (i := 3) (v := ?_) rfl (by kernel_rfl) (by kernel_rfl) (by kernel_rfl) (fun _ _ _ h => h) (Or.inl ⟨by kernel_rfl, ?_⟩) hHeld ?_
    rotate_left
    · (intro w hSw; first | (go_simp; done) | (go_simp; with_reducible rfl))
    (try simp only [Act.put, List.getElem_toArray, List.getElem_cons_succ, List.getElem_cons_zero, List.setIfInBounds_toArray, List.set_cons_zero, List.set_cons_succ])
    refine wpAnyH_take (i := 5) (v := ?_) rfl (by kernel_rfl) (by kernel_rfl) (by kernel_rfl) (fun _ _ _ h => h) (Or.inl ⟨by kernel_rfl, ?_⟩) hHeld ?_
    rotate_left
    · (intro w hSw; first | (go_simp; done) | (go_simp; with_reducible rfl))
    (try simp only [Act.put, List.getElem_toArray, List.getElem_cons_succ, List.getElem_cons_zero, List.setIfInBounds_toArray, List.set_cons_zero, List.set_cons_succ])
    refine wpAnyH_take (i := 6) (v := ?_) rfl (by kernel_rfl) (by kernel_rfl) (by kernel_rfl) (fun _ _ _ h => h) (Or.inl ⟨by kernel_rfl, ?_⟩) hHeld ?_
    rotate_left
    · (intro w hSw; first | (go_simp; done) | (go_simp; with_reducible rfl))
    (try simp only [Act.put, List.getElem_toArray, List.getElem_cons_succ, List.getElem_cons_zero, List.setIfInBounds_toArray, List.set_cons_zero, List.set_cons_succ])
    refine wpAnyH_take (i := 7) (v := ?_) rfl (by kernel_rfl) (by kernel_rfl) (by kernel_rfl) (fun _ _ _ h => h) (Or.inl ⟨by kernel_rfl, ?_⟩) hHeld ?_
    rotate_left
    · (intro w hSw; first | (go_simp; done) | (go_simp; with_reducible rfl))
    (try simp only [Act.put, List.getElem_toArray, List.getElem_cons_succ, List.getElem_cons_zero, List.setIfInBounds_toArray, List.set_cons_zero, List.set_cons_succ])
    refine wpAnyH_take (i := 8) (v := ?_) rfl (by kernel_rfl) (by kernel_rfl) (by kernel_rfl) (fun _ _ _ h => h) (Or.inl ⟨by kernel_rfl, ?_⟩) hHeld ?_
    rotate_left
    · (intro w hSw; first | (go_simp; done) | (go_simp; with_reducible rfl))
    (try simp only [Act.put, List.getElem_toArray, List.getElem_cons_succ, List.getElem_cons_zero, List.setIfInBounds_toArray, List.set_cons_zero, List.set_cons_succ])
    refine wpAnyH_ready (rs := [4]) (by kernel_rfl) (by simp) (AllReadyH.cons rfl (fun K hK => ?_) AllReadyH.nil)
    have hH := hHeld
    (go_simp; go_at_call 65; refine (records_any _ h' _ aE' NL' cE').mono ?_; rintro e w8 ⟨rfl, hc8⟩)
    refine hK.out _ _ (by exact ⟨hc8.cell hH.1 (by simp), hc8.cell hH.2.1 (by simp), hc8.cell hH.2.2.1 (by simp), hc8.cell hH.2.2.2.1 (by simp), hc8.cell hH.2.2.2.2.1 (by simp), hc8.cell hH.2.2.2.2.2 (by simp)⟩) (fun hHq1 => ?_)
    clear hK K hH 
    (try simp only [Act.put, List.getElem_toArray, List.getElem_cons_succ, List.getElem_cons_zero, List.setIfInBounds_toArray, List.set_cons_zero, List.set_cons_succ])
    refine wpAnyH_ready (rs := [9]) (by kernel_rfl) (by simp) (AllReadyH.cons rfl (fun K hK => ?_) AllReadyH.nil)
    have hH := hHq1
    (go_simp; go_at_call 65; refine (records_any _ h _ aE NL cE).mono ?_; rintro e w9 ⟨rfl, hc9⟩)
    refine hK.out _ _ (by exact ⟨hc9.cell hH.1 (by simp), hc9.cell hH.2.1 (by simp), hc9.cell hH.2.2.1 (by simp), hc9.cell hH.2.2.2.1 (by simp), hc9.cell hH.2.2.2.2.1 (by simp), hc9.cell hH.2.2.2.2.2 (by simp)⟩) (fun hHq2 => ?_)
    clear hK K hH hHq1
    (try simp only [Act.put, List.getElem_toArray, List.getElem_cons_succ, List.getElem_cons_zero, List.setIfInBounds_toArray, List.set_cons_zero, List.set_cons_succ])
    refine wpAnyH_take (i := 10) (v := ?_) rfl (by kernel_rfl) (by kernel_rfl) (by kernel_rfl) (fun _ _ _ h => h) (Or.inl ⟨by kernel_rfl, ?_⟩) hHq2 ?_
    rotate_left
    · (intro w hSw; first | (go_simp; done) | (go_simp; with_reducible rfl))
    (try simp only [Act.put, List.getElem_toArray, List.getElem_cons_succ, List.getElem_cons_zero, List.setIfInBounds_toArray, List.set_cons_zero, List.set_cons_succ])
    refine wpAnyH_take (i := 11) (v := ?_) rfl (by kernel_rfl) (by kernel_rfl) (by kernel_rfl) (fun _ _ _ h => h) (Or.inl ⟨by kernel_rfl, ?_⟩) hHq2 ?_
    rotate_left
    · (intro w hSw; first | (go_simp; done) | (go_simp; with_reducible rfl))
    (try simp only [Act.put, List.getElem_toArray, List.getElem_cons_succ, List.getElem_cons_zero, List.setIfInBounds_toArray, List.set_cons_zero, List.set_cons_succ])
    refine wpAnyH_done (by kernel_rfl) ?_ _
    have hEnd := hHq2
    clear hEnd hHeld hHq2
    go_wp2_with fail
    go_ret
    exact ⟨rfl, ((((Chg.refl [] w).qt HQ1.out).drew).trans hc8).trans hc9⟩
  · have hd : decide (h ≠ h') = true := decide_eq_true hk
    rw [hd] at HR
    have HW2 := Lib.hid (show waitN h h' L L' = NL' by rw [HW.out, if_neg hk])
    rw [HW2.out]
    clear hk hll hd
    go_enter Tryz.func133, Tryz.ntmps133
    go_wp2_with fail
    refine HR.out.mono ?_
    rintro e w1 ⟨rfl, hq1⟩
    have HQ1 := Lib.hid hq1
    have ho := HT.out.own.qt hq1
    have c4 := ho.cell 4
    have c5 := ho.cell 5
    have c6 := ho.cell 6
    simp at c4 c5 c6
    clear hq1 ho
    go_wp2_with (first | (go_at_call 65; refine (records_any _ h' _ aE' NL' cE').mono ?_; rintro e w' ⟨rfl, hc⟩) | fail)
    go_ret
    exact ⟨rfl, ((Chg.refl [] w).qt HQ1.out).trans hc⟩
/-- the room that is told -/
def roomN (n h h' : Nat) (L L' : List Rec) : Nat := hsec n * 64 - if h = h' then (frs L').length else (frs L).length
theorem room_tape {g b : Nat} {F : Nat → Sec} {m : Nat → Option Sec} (t : TpV w l q p n h h' L L' k vF vE vF' vE') (hd : Dsk w p g b n F m) :
    Calls Tryz.prog 90 #[.pointer (some ⟨q, 0, none⟩)] w fun e w' => e = .returned (.int .i64 ((roomN n h h' L L' : Nat) : Int)) ∧ Qt w w' := by
  have HR := Lib.hid (replacing_any t)
  have hle := t.len_le hd.top
  have hr1 := t.room
  have hr2 := t.room'
  have hs : hsec n * 64 ≤ 100000 := by have := hd.top; unfold hsec; omega
  obtain ⟨aF, cF, rfl⟩ := t.fr.sl8
  obtain ⟨aF', cF', rfl⟩ := t.fr'.sl8
  obtain ⟨s, HS⟩ : ∃ s, Hid (hsec n * 64 = s) := ⟨_, Lib.hid rfl⟩
  obtain ⟨NF, HNF⟩ : ∃ N, Hid ((frs L).length = N) := ⟨_, Lib.hid rfl⟩
  obtain ⟨NF', HNF'⟩ : ∃ N, Hid ((frs L').length = N) := ⟨_, Lib.hid rfl⟩
  have HW := Lib.hid (show roomN n h h' L L' = s - if h = h' then NF' else NF by unfold roomN; rw [HNF.out, HNF'.out, HS.out])
  rw [HNF.out] at hr1
  rw [HNF'.out] at hr2
  rw [HS.out] at hr1 hr2 hs
  have hq0 := t.own.cell 0
  have c2 := t.own.cell 2
  have c5 := t.own.cell 5
  simp at hq0 c2 c5
  rw [HNF.out] at c2
  rw [HNF'.out] at c5
  have hHS := fun k2 => halfSize_any (w.drewN k2) (show (w.drewN k2).cell? ⟨q, 0, none⟩ = _ from hq0) (hd.kept ((Chg.refl [] w).drewN k2))
  rw [HS.out] at hHS
  have HHS := Lib.hid hHS
  have HC := Lib.hid (And.intro c2 c5)
  clear t hle hHS hd hq0 c2 c5
  by_cases hk : h = h'
  · have hdd : decide (h ≠ h') = false := decide_eq_false (fun x => x hk)
    rw [hdd] at HR
    rw [HW.out, if_pos hk]
    have e1 : IntKind.i64.wrap ((s : Int) - (NF' : Int)) = ((s - NF' : Nat) : Int) := by rw [IntWalk.i64_in _ (by omega)]; omega
    clear hk hdd
    go_enter Tryz.func90, Tryz.ntmps90
    go_wp2_with fail
    refine HR.out.mono ?_
    rintro e w1 ⟨rfl, nn, rfl⟩
    have c5 := HC.out.2
    go_wp2_with fail
    go_quiet ((go_at_call 61; exact quiet2 (HHS.out _)))
    go_wp2
    go_ret
    exact ⟨ret_int (by omega), ((Qt.refl _).add _).add _⟩
  · have hdd : decide (h ≠ h') = true := decide_eq_true hk
    rw [hdd] at HR
    rw [HW.out, if_neg hk]
    have e1 : IntKind.i64.wrap ((s : Int) - (NF : Int)) = ((s - NF : Nat) : Int) := by rw [IntWalk.i64_in _ (by omega)]; omega
    clear hk hdd
    go_enter Tryz.func90, Tryz.ntmps90
    go_wp2_with fail
    refine HR.out.mono ?_
    rintro e w1 ⟨rfl, nn, rfl⟩
    have c2 := HC.out.1
    go_wp2_with fail
    go_quiet ((go_at_call 61; exact quiet2 (HHS.out _)))
    go_wp2
    go_ret
    exact ⟨ret_int (by omega), ((Qt.refl _).add _).add _⟩
end
end Go.Proofs.YtihbinphmlgjoaaGreat
