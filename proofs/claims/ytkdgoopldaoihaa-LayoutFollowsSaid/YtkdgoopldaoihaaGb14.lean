/-
  Decode of package layout, by its contracts. No claim of its own.
-/
import Derived.Test.YtkdgoopldaoihaaGb7
import Derived.Test.YtkdgoopldaoihaaGb9
import Derived.Test.YtkdgoopldaoihaaGb8
namespace Go.Proofs.Ytkdgoopldaoihaa
open Go.RowKit Go.Deep Go.Shelf
set_option linter.unusedVariables false
set_option linter.unusedSimpArgs false

theorem rep_mem {α : Type} {p : Nat → α × Nat} {P : α → Prop} (h : ∀ k, P (p k).1) : ∀ n k, ∀ x ∈ (rep p n k).1, P x
  | 0, k, x, hx => by cases hx
  | n + 1, k, x, hx => by
    rw [rep] at hx
    rcases List.mem_append.1 hx with hx | hx
    · exact rep_mem h n k x hx
    · simp only [List.mem_singleton] at hx
      subst hx
      exact h _
theorem fit_of {T : LyT} {bs : List UInt8} (h : T.x = pLy bs) : SgFit T.sg ∧ T.sg.length ≤ 4 := by
  have h1 : sgx T.sg = (rep (pSg bs) (tkN bs 26 2 + 1) 28).1 := by
    have := congrArg Ly.s h
    exact this
  have h2 := tkN_lt bs 26 2
  have h3 : T.sg.length = tkN bs 26 2 + 1 := by rw [← sgx_length, h1, rep_length]
  refine ⟨⟨by omega, fun s hs => ?_⟩, by omega⟩
  have hm : s.x ∈ (rep (pSg bs) (tkN bs 26 2 + 1) 28).1 := by rw [← h1]; exact List.mem_map_of_mem hs
  have h4 := rep_mem (p := pSg bs) (P := fun x => x.2.length ≤ 4 ∧ ∀ c ∈ x.2, c.length ≤ 4) (fun k => ⟨(pSg_at bs k).2, fun c hc => rep_mem (p := pCh bs) (P := fun c => c.length ≤ 4) (fun k => (pCh_at bs k).2) _ _ c hc⟩) _ _ _ hm
  obtain ⟨h5, h6⟩ := h4
  have h7 : s.x.2 = chx s.ch := rfl
  rw [h7, chx_length] at h5
  refine ⟨by omega, fun c hc => ?_⟩
  have := h6 c.u (List.mem_map_of_mem hc)
  omega
theorem Sl.ro {w : World} {base : Nat} {a : Option Addr} {n c : Nat} {L : List SgT} (h : Sl w base (.slice a n c) L) : Ro w w.heap.size a (sgv L) := by
  obtain ⟨a', c', e, hr, _⟩ := h.form
  injection e with e1 _ _
  rw [e1]
  exact hr

/-- what Decode of a layout tells -/
def DL (w : World) (bs : List UInt8) (e : Ending) (w' : World) : Prop :=
  Below w.heap.size w w' ∧ ((∃ T : LyT, e = .returned (.tuple #[T.val, .int .i64 0]) ∧ lright (pLy bs) = true ∧ IsLE (pLy bs) bs ∧ T.x = pLy bs ∧ LyIn w' w'.heap.size T ∧ SgFit T.sg) ∨
    (e = .returned (.tuple #[.agg #[.int .u64 0, .slice none 0 0, .int .i64 0], .int .i64 91]) ∧ ∀ x, lright x = true → ¬ IsLE x bs))
theorem noLE_of {bs : List UInt8} (h : lright (pLy bs) = true → ¬ IsLE (pLy bs) bs) : ∀ x, lright x = true → ¬ IsLE x bs := fun x hr he => by
  have := pLy_enc' hr he
  rw [this] at h
  exact h hr he

def DLG (w : World) (bs : List UInt8) (e : Ending) (w' : World) : Prop :=
  Below w.heap.size w w' ∧ ((∃ T : LyT, e = .returned (.tuple #[T.val, .int .i64 0]) ∧ lright (pLy bs) = true ∧ IsLE (pLy bs) bs ∧ T.x = pLy bs ∧ LyIn w' w'.heap.size T ∧ SgFit T.sg ∧ Sl w' w.heap.size (.slice T.a T.sg.length T.c) T.sg ∧ GwS w' w.heap.size T.sg) ∨
    (e = .returned (.tuple #[.agg #[.int .u64 0, .slice none 0 0, .int .i64 0], .int .i64 91]) ∧ ∀ x, lright x = true → ¬ IsLE x bs))
theorem GwS.base {w : World} {base base' : Nat} {Gs : List SgT} (h : GwS w base Gs) (hb : base' ≤ base) : GwS w base' Gs := fun T hT => ⟨(h T hT).1.base hb, (h T hT).2.base hb⟩
set_option maxHeartbeats 4000000 in
theorem ldecG_any (bs : List UInt8) (n : Nat) (a : Option Addr) (c B : Nat) (w : World) (hn : bs.length = n) (hro : Ro w B a (u8s bs)) (hB : B ≤ w.heap.size) (hl : n ≤ 1000000) :
    Calls Try.prog 9 #[.slice a n c] w (DLG w bs) := by
  obtain ⟨W, HWW⟩ : ∃ W, Hid (w.alloc (.cells #[.int .u64 0, .slice none 0 0, .int .i64 0] 25) = W) := ⟨_, Lib.hid rfl⟩
  obtain ⟨W2, HW2⟩ : ∃ W2, Hid (W.alloc (.cells #[.slice a n c, .int .i64 0] 59) = W2) := ⟨_, Lib.hid rfl⟩
  have hWc : Chg [] w W := by rw [← HWW.out]; exact (Chg.refl [] w).alloc _
  have hWc2 : Chg [] w W2 := by rw [← HW2.out]; exact hWc.alloc _
  have hs : W.heap.size = w.heap.size + 1 := by rw [← HWW.out]; simp
  have o1 : Own W w.heap.size 25 [.int .u64 0, .slice none 0 0, .int .i64 0] := by rw [← HWW.out]; exact Own.new w _ _
  have HO1 : Hid (Own W2 w.heap.size 25 [.int .u64 0, .slice none 0 0, .int .i64 0]) := Lib.hid (by rw [← HW2.out]; exact o1.alloc _)
  have HSRC : Hid (Src W2 59 B (w.heap.size + 1) bs 0) := Lib.hid ⟨⟨a, c, by rw [hn, ← hs, ← HW2.out]; exact Own.new W _ _, hro.below hWc2.low hB⟩, by omega, by omega⟩
  have HC2 := Lib.hid hWc2
  have HRO := Lib.hid hro
  have HBW := Lib.hid hB
  have HN := Lib.hid hn
  have HS := Lib.hid hs
  clear hWc hWc2 hs o1 hro hB hn
  go_enter Try.func9, Try.ntmps9
  go_upto_region 1 with fail
  rw [HWW.out]
  go_upto_region 2 with fail
  rw [HW2.out, HS.out]
  go_wp2_with fail
  refine (lply_any bs B (w.heap.size + 1) W2 HSRC.out).mono ?_
  rintro e w1 ⟨T, rfl, hx, h1, h2, h3⟩
  have HX := Lib.hid hx
  have HFIT := Lib.hid (fit_of hx)
  have HSL1 := Lib.hid h1
  have HGW1 := Lib.hid h2
  have HIN1 : Hid (LyIn w1 w1.heap.size T) := Lib.hid ⟨h1.ro, h2.inn⟩
  have HC1 : Hid (Below w.heap.size w w1) := Lib.hid ((HC2.out.nil1 [w.heap.size + 1]).trans h3 |>.below (Nat.le_refl _) (by simp))
  have HO2 := Lib.hid (HO1.out.chg h3 (by simp))
  have HNoB := Lib.hid (@noLE_of bs)
  clear h1 h2 h3 hx
  obtain ⟨y, hy⟩ : ∃ y, pLy bs = y := ⟨_, rfl⟩
  have HY := Lib.hid hy
  rw [hy] at HX HNoB
  obtain ⟨r, hr⟩ : ∃ r, lright y = r := ⟨_, rfl⟩
  have HR := Lib.hid hr
  obtain ⟨ep, al, cl, L, q⟩ := T
  simp only [LyT.val]
  obtain ⟨m, hm⟩ : ∃ m, L.length = m := ⟨_, rfl⟩
  have HM := Lib.hid hm
  rw [hm]
  clear hy hm hr
  go_upto_region 3 with fail
  obtain ⟨p, hp⟩ : ∃ p, w1.heap.size = p := ⟨_, rfl⟩
  have HPW : Hid (w.heap.size < p) := Lib.hid (by rw [← hp]; exact HO2.out.lt)
  obtain ⟨W3, hW3⟩ : ∃ W3, w1.alloc (.cells #[.int .u64 (ep : Int), .slice al m cl, .int .i64 q] 25) = W3 := ⟨_, rfl⟩
  have HO3 : Hid (Own W3 w.heap.size 25 [.int .u64 0, .slice none 0 0, .int .i64 0]) := Lib.hid (by rw [← hW3]; exact HO2.out.alloc _)
  have HP3 : Hid (Own W3 p 25 [.int .u64 (ep : Int), .slice al m cl, .int .i64 q]) := Lib.hid (by rw [← hW3, ← hp]; exact Own.new w1 _ _)
  have hin : LyIn W3 w1.heap.size ⟨ep, al, cl, L, q⟩ := by rw [← hW3]; exact HIN1.out.below ((Below.refl _ _).alloc (Nat.le_refl _) _) (Nat.le_refl _)
  have HIN3 := Lib.hid hin
  have HC3 : Hid (Below w.heap.size w W3) := Lib.hid (by rw [← hW3]; exact HC1.out.alloc HC1.out.size _)
  have hsz : w1.heap.size ≤ W3.heap.size := by rw [← hW3]; simp
  have HSZ := Lib.hid hsz
  have HB13 : Hid (Below w1.heap.size w1 W3) := Lib.hid (by rw [← hW3]; exact (Below.refl _ _).alloc (Nat.le_refl _) _)
  have HEN : Hid (r = false → Calls Try.prog 7 #[.agg #[.int .u64 (ep : Int), .slice al m cl, .int .i64 q]] W3 fun e w' => e = .returned (.tuple #[.slice none 0 0, .int .i64 91]) ∧ Below W3.heap.size W3 w') := Lib.hid fun hr => by
    have := lenc_no ⟨ep, al, cl, L, q⟩ w1.heap.size W3 hin hsz HFIT.out.1 (by rw [HX.out, HR.out, hr])
    simp only [LyT.val, HM.out] at this
    exact this
  have HEY : Hid (r = true → Calls Try.prog 7 #[.agg #[.int .u64 (ep : Int), .slice al m cl, .int .i64 q]] W3 fun e w' => ∃ (g : Nat) (cs : List UInt8), e = .returned (.tuple #[.slice (some ⟨g, 0, none⟩) cs.length cs.length, .int .i64 0]) ∧ W3.heap.size ≤ g ∧ IsLE y cs ∧ Own w' g 5 (u8s cs) ∧ Below W3.heap.size W3 w') := Lib.hid fun hr => by
    have := lenc_yes ⟨ep, al, cl, L, q⟩ w1.heap.size W3 hin hsz HFIT.out.1 (by rw [HX.out, HR.out, hr])
    rw [HX.out] at this
    simp only [LyT.val, HM.out] at this
    exact this
  rw [hW3, hp]
  clear hW3 hp hin hsz
  have c0 := HP3.out.cell 0
  have c1 := HP3.out.cell 1
  have c2 := HP3.out.cell 2
  have hz3 := HP3.out.lt
  simp at c0 c1 c2
  cases r with
  | false =>
    go_wp2_with fail
    refine (HEN.out trivial).mono ?_
    rintro e w4 ⟨rfl, hb⟩
    have HB4 := Lib.hid (HC3.out.trans (hb.mono HC3.out.size))
    have HO4 := Lib.hid (HO3.out.below hb HO3.out.lt)
    have r0 := HO4.out.cell 0
    have r1 := HO4.out.cell 1
    have r2 := HO4.out.cell 2
    have f0 := HO4.out.frozen 0
    have f1 := HO4.out.frozen 1
    have f2 := HO4.out.frozen 2
    have hz4 := HO4.out.lt
    simp at r0 r1 r2
    clear hb c0 c1 c2 hz3
    go_wp2_with fail
    refine bodyPost_ret (v := .tuple #[.agg #[.int .u64 0, .slice none 0 0, .int .i64 0], .int .i64 91]) (by simp [results, Try.results9, go_sem, r0, r1, r2, hz4]) rfl ?_
    exact ⟨((HB4.out.setCell (Nat.le_refl _) _).setCell (Nat.le_refl _) _).setCell (Nat.le_refl _) _, .inr ⟨rfl, HNoB.out (fun h => by rw [HR.out] at h; cases h)⟩⟩
  | true =>
    go_wp2_with fail
    refine (HEY.out trivial).mono ?_
    rintro e w4 ⟨g, cs, rfl, hg, he, ho, hb⟩
    have HB4 := Lib.hid (HC3.out.trans (hb.mono HC3.out.size))
    have HO4 := Lib.hid (HO3.out.below hb HO3.out.lt)
    have HP4 := Lib.hid (HP3.out.below hb HP3.out.lt)
    have HB14 : Hid (Below w1.heap.size w1 w4) := Lib.hid (HB13.out.trans (hb.mono HSZ.out))
    have HSZ4 := Lib.hid (Nat.le_trans HSZ.out hb.size)
    have HE := Lib.hid he
    obtain ⟨nc, hnc⟩ : ∃ nc, cs.length = nc := ⟨_, rfl⟩
    have HEQ := Lib.hid (bytesEqual_any cs bs nc n (some ⟨g, 0, none⟩) a nc c w4.heap.size w4 hnc HN.out (ho.ro _ ho.lt) ((HRO.out.below HB4.out HBW.out).mono (Nat.le_trans HBW.out HB4.out.size)))
    rw [hnc]
    have r0 := HO4.out.cell 0
    have r1 := HO4.out.cell 1
    have r2 := HO4.out.cell 2
    have f0 := HO4.out.frozen 0
    have f1 := HO4.out.frozen 1
    have f2 := HO4.out.frozen 2
    have d0 := HP4.out.cell 0
    have d1 := HP4.out.cell 1
    have d2 := HP4.out.cell 2
    have hz4 := HO4.out.lt
    simp at r0 r1 r2 d0 d1 d2
    clear hb c0 c1 c2 hz3 ho hg he hnc
    by_cases heq : cs = bs
    · have hE : decide (cs = bs) = true := by simpa using heq
      rw [hE] at HEQ
      have HEQ2 := Lib.hid heq
      clear heq hE
      go_wp2_with fail
      refine HEQ.out.mono ?_
      rintro e w5 ⟨rfl, rfl⟩
      go_wp2_with fail
      refine bodyPost_ret (v := .tuple #[.agg #[.int .u64 (ep : Int), .slice al m cl, .int .i64 q], .int .i64 0]) (by simp [results, Try.results9, go_sem, r0, r1, r2, d0, d1, d2, hz4]) rfl ?_
      refine ⟨((HB4.out.setCell (Nat.le_refl _) _).setCell (Nat.le_refl _) _).setCell (Nat.le_refl _) _, .inl ⟨⟨ep, al, cl, L, q⟩, by simp only [LyT.val, HM.out], by rw [HY.out]; exact HR.out, by rw [HY.out, ← HEQ2.out]; exact HE.out, by rw [HY.out]; exact HX.out, ?_⟩⟩
      have hb4 : Below w1.heap.size w1 w5 := HB14.out
      have sc : Chg [w.heap.size] w5 (((w5.setCell ⟨w.heap.size, 0, none⟩ (.int .u64 (ep : Int))).setCell ⟨w.heap.size, 1, none⟩ (.slice al m cl)).setCell ⟨w.heap.size, 2, none⟩ (.int .i64 q)) := (((Chg.refl _ w5).setCell (by simp) _).setCell (by simp) _).setCell (by simp) _
      have g1 := (HSL1.out.below hb4).chg sc (HO4.out.notT' (by decide))
      have g2 := (HGW1.out.chg ((Chg.refl [] w1).of_below hb4) (by simp) (by simp)).chg sc (HO4.out.notT' (by decide)) (HO4.out.notT' (by decide))
      exact ⟨⟨g1.ro, g2.inn⟩, HFIT.out.1, g1.base HC2.out.size, g2.base HC2.out.size⟩
    · have hE : decide (cs = bs) = false := by simpa using heq
      rw [hE] at HEQ
      have HEQ2 := Lib.hid heq
      clear heq hE
      go_wp2_with fail
      refine HEQ.out.mono ?_
      rintro e w5 ⟨rfl, rfl⟩
      go_wp2_with fail
      refine bodyPost_ret (v := .tuple #[.agg #[.int .u64 0, .slice none 0 0, .int .i64 0], .int .i64 91]) (by simp [results, Try.results9, go_sem, r0, r1, r2, hz4]) rfl ?_
      exact ⟨((HB4.out.setCell (Nat.le_refl _) _).setCell (Nat.le_refl _) _).setCell (Nat.le_refl _) _, .inr ⟨rfl, HNoB.out (fun _ h => HEQ2.out (HE.out.unique h))⟩⟩
theorem ldec_any (bs : List UInt8) (n : Nat) (a : Option Addr) (c B : Nat) (w : World) (hn : bs.length = n) (hro : Ro w B a (u8s bs)) (hB : B ≤ w.heap.size) (hl : n ≤ 1000000) :
    Calls Try.prog 9 #[.slice a n c] w (DL w bs) := by
  refine (ldecG_any bs n a c B w hn hro hB hl).mono ?_
  rintro e w' ⟨hb, ⟨T, h1, h2, h3, h4, h5, h6, _⟩ | h⟩
  · exact ⟨hb, .inl ⟨T, h1, h2, h3, h4, h5, h6⟩⟩
  · exact ⟨hb, .inr h⟩
end Go.Proofs.Ytkdgoopldaoihaa
namespace Go.Proofs.Ytkdgoopldaoihaa
open Go.RowKit Go.Deep
set_option linter.unusedVariables false
set_option linter.unusedSimpArgs false
set_option maxRecDepth 100000

theorem bytes_beq (l l' : List UInt8) : (({ data := l.toArray } : ByteArray) == ({ data := l'.toArray } : ByteArray)) = decide (l = l') := by
  rw [beq_toListBytes, ByteArray.toList_eq, ByteArray.toList_eq]
  by_cases h : l = l'
  · subst h; simp
  · simp [h]
end Go.Proofs.Ytkdgoopldaoihaa
