/-
  Contract of the document's tape: target. No claim of its own.
-/
import Derived.Test.YtdiemejdbakffaaGreatRt7
namespace Go.Proofs.YtdiemejdbakffaaGreat
open Go.RowKit Go.Deep Go.Shelf Go.Maps
set_option linter.unusedVariables false
set_option linter.unusedSimpArgs false

theorem new8_lit {w wa wb : World} {g : Nat} {v1 : Value} {A : List UInt8} (ha : Chg [] w wa) (hg : w.heap.size ≤ g) (K : AppK wa wb 5 (.slice (some ⟨g, 0, none⟩) 0 0) v1 [] (u8s A)) : New8 w wb v1 A :=
  ⟨K.lst, fun x hx => by
    rcases K.bl x hx with h | h
    · have := bl_some _ _ _ x h; omega
    · exact Nat.le_trans ha.size h, ha.then K.chg (fun x hx => .inr (by have := bl_some _ _ _ x hx; omega))⟩
theorem New8.ro {w w' : World} {a : Option Addr} {n c : Nat} {bs : List UInt8} (h : New8 w w' (.slice a n c) bs) : Ro w' w'.heap.size a (u8s bs) := by
  obtain ⟨a2, c2, e2, h2, _⟩ := h.lst.form
  injection e2 with e3
  subst e3
  exact h2
/-- the first of the bytes that are new -/
def fromS (S : TS) : Nat := if S.h = S.h' then (frs S.L).length else 0
theorem TI.waitOk {n : Nat} {S : TS} (ti : TI n S) : okL (waitL S) ∧ (waitL S).length ≤ 100000 := by
  have h1 := ti.lens
  unfold waitL
  split
  · exact ⟨fun r hr => ti.ok' r (List.mem_of_mem_drop hr), by rw [List.length_drop]; omega⟩
  · exact ⟨ti.ok', by omega⟩
section
variable {w : World} {N : List Nat} {u q gn go gd n : Nat} {S : TS}
set_option maxHeartbeats 4000000 in
set_option maxRecDepth 100000 in
theorem rtarget_any (t : Rt w N u q gn go gd n S) (ti : TI n S) :
    Calls Tryz.prog 69 #[.pointer (some ⟨u, 0, none⟩)] w fun e w' => ∃ v, e = .returned (.tuple #[.int .i64 (S.h' : Int), v, .int .i64 (fromS S : Int)]) ∧ New8 w w' v (frs S.L') := by
  obtain ⟨aL, cL, xs, aW, cW, ys, t, eL, eW⟩ := t
  obtain ⟨c0, c1, c2, c3, c4, c5⟩ := t.cells
  have hlen := ti.lens
  have hfl := frames_any w aL xs cL t.lL.rom (by rw [eL]; exact ti.ok) (by rw [← recs_len, eL]; omega)
  rw [eL] at hfl
  have hfw := fun w1 (hc : Chg [] w w1) => frames_any w1 aW ys cW (t.lW.kept hc).rom (by rw [eW]; exact ti.waitOk.1) (by rw [← recs_len, eW]; have := ti.waitOk.2; omega)
  rw [eW] at hfw
  by_cases hh : S.h = S.h'
  · have hd : decide (S.h ≠ S.h') = false := decide_eq_false (fun x => x hh)
    rw [hd] at c4
    have hfs : frs S.L' = frs S.L ++ frs (waitL S) := by rw [waitL_same ti hh, frs_append]
    have hfr : fromS S = (frs S.L).length := by unfold fromS; rw [if_pos hh]
    have hFW : (frs (waitL S)).length ≤ 100000 := by
      have h1 := congrArg List.length hfs
      rw [List.length_append] at h1
      omega
    rw [hfs, hfr, ← hh]
    obtain ⟨FL, HFL⟩ : ∃ x, Hid (frs S.L = x) := ⟨_, Lib.hid rfl⟩
    obtain ⟨FW, HFW⟩ : ∃ x, Hid (frs (waitL S) = x) := ⟨_, Lib.hid rfl⟩
    obtain ⟨nL, HNL⟩ : ∃ x, Hid ((frs S.L).length = x) := ⟨_, Lib.hid rfl⟩
    obtain ⟨nW, HNW⟩ : ∃ x, Hid ((frs (waitL S)).length = x) := ⟨_, Lib.hid rfl⟩
    have hn1 : nL ≤ 100000 := by rw [← HNL.out]; omega
    have hn2 : nW ≤ 100000 := by rw [← HNW.out]; exact hFW
    rw [HNL.out] at hfl
    simp only [HNW.out] at hfw
    rw [HNL.out]
    rw [HFL.out] at hfl HNL
    simp only [HFW.out] at hfw
    rw [HFW.out] at HNW
    rw [HFL.out, HFW.out]
    have HF1 := Lib.hid hfl
    have HF2 := Lib.hid hfw
    have HCC := Lib.hid (And.intro c1 c3)
    have hu0 : u < w.heap.size := t.own.lt
    clear t eL eW hlen hfl hfw hd hfs hfr hFW c0 c5 HFL HFW hh
    go_enter Tryz.func69, Tryz.ntmps69
    go_wp2_with fail
    refine HF1.out.mono ?_
    rintro e w1 ⟨aO, cO, rfl, h1⟩
    have H1 := Lib.hid h1
    have k1 := h1.chg.cell HCC.out.1 (by simp)
    have k3 := h1.chg.cell HCC.out.2 (by simp)
    have hst : (fun W : World => W.cell? ⟨u, 1, none⟩ = some (.int .i64 (S.h : Int)) ∧ W.cell? ⟨u, 3, none⟩ = some (.slice aW ys.length cW)) w1.drew := ⟨k1, k3⟩
    have HE1 := Lib.hid (show Lst (w1.drew.alloc (.cells #[] 5)) 0 5 (.slice (some ⟨w1.heap.size, 0, none⟩) 0 0) [] from Lst.lit w1.drew 0 5 #[] (Nat.zero_le _) (by decide))
    have HE2 := Lib.hid (show ∀ W, Lst (W.alloc (.cells #[] 5)) 0 5 (.slice (some ⟨W.heap.size, 0, none⟩) 0 0) [] from fun W => Lst.lit W 0 5 #[] (Nat.zero_le _) (by decide))
    have HRO := Lib.hid (show ∀ W, Chg [] w1 W → Ro W w1.heap.size aO (u8s FL) from fun W hW => by
      obtain ⟨a2, c2, e2, h2, _⟩ := H1.out.lst.form
      injection e2 with e3
      subst e3
      exact h2.chgs hW (by simp))
    have HS1 := Lib.hid h1.chg.size
    have hu1 : u < w1.heap.size := Nat.lt_of_lt_of_le hu0 h1.chg.size
    have HFWw := Lib.hid (show ∀ W, Chg [] w1 W → Calls Tryz.prog 67 #[.slice aW ys.length cW] W fun e w' => ∃ a' c', e = .returned (.slice a' nW c') ∧ New8 W w' (.slice a' nW c') FW from fun W hW => HF2.out W (H1.out.chg.trans hW))
    have hD : Chg [] w1 w1.drew := (Chg.refl [] w1).drew
    have HDD := Lib.hid hD
    have HC1 := Lib.hid h1.chg
    clear h1 k1 k3 c1 c2 c3 c4 hD
    go_upto_region 4 with fail
    refine wp_region_held_drew (S := (fun W : World => W.cell? ⟨u, 1, none⟩ = some (.int .i64 (S.h : Int)) ∧ W.cell? ⟨u, 3, none⟩ = some (.slice aW ys.length cW))) (by kernel_rfl) hst (fun hHeld => ?_)
    refine wpAnyH_take (i := 0) (v := ?_) rfl (by kernel_rfl) (by kernel_rfl) (by kernel_rfl) (fun _ _ _ h => h) (Or.inl ⟨by kernel_rfl, ?_⟩) hHeld ?_
    rotate_left
    · (intro w hSw; first | (go_simp; done) | (go_simp; with_reducible rfl))
    (try simp only [Act.put, List.getElem_toArray, List.getElem_cons_succ, List.getElem_cons_zero, List.setIfInBounds_toArray, List.set_cons_zero, List.set_cons_succ])
    refine wpAnyH_take (i := 1) (v := ?_) rfl (by kernel_rfl) (by kernel_rfl) (by kernel_rfl) (fun _ _ _ h => h) (Or.inl ⟨by kernel_rfl, ?_⟩) hHeld ?_
    rotate_left
    · (intro w hSw; first | (go_simp; done) | (go_simp; with_reducible rfl))
    (try simp only [Act.put, List.getElem_toArray, List.getElem_cons_succ, List.getElem_cons_zero, List.setIfInBounds_toArray, List.set_cons_zero, List.set_cons_succ])
    refine wpAnyH_take (i := 2) (v := ?_) rfl (by kernel_rfl) (by kernel_rfl) (by kernel_rfl) (fun _ _ _ h => h) (Or.inl ⟨by kernel_rfl, ?_⟩) hHeld ?_
    rotate_left
    · (intro w hSw; first | (go_simp; done) | (go_simp; with_reducible rfl))
    (try simp only [Act.put, List.getElem_toArray, List.getElem_cons_succ, List.getElem_cons_zero, List.setIfInBounds_toArray, List.set_cons_zero, List.set_cons_succ])
    refine wpAnyH_take (i := 3) (v := ?_) rfl (by kernel_rfl) (by kernel_rfl) (by kernel_rfl) (fun _ _ _ h => h) (Or.inl ⟨by kernel_rfl, ?_⟩) hHeld ?_
    rotate_left
    · (intro w hSw; first | (go_simp; done) | (go_simp; with_reducible rfl))
    (try simp only [Act.put, List.getElem_toArray, List.getElem_cons_succ, List.getElem_cons_zero, List.setIfInBounds_toArray, List.set_cons_zero, List.set_cons_succ])
    refine wpAnyH_take (i := 5) (v := ?_) rfl (by kernel_rfl) (by kernel_rfl) (by kernel_rfl) (fun _ _ _ h => h) (Or.inl ⟨by kernel_rfl, ?_⟩) hHeld ?_
    rotate_left
    · (intro w hSw; first | (go_simp; done) | (go_simp; with_reducible rfl))
    (try simp only [Act.put, List.getElem_toArray, List.getElem_cons_succ, List.getElem_cons_zero, List.setIfInBounds_toArray, List.set_cons_zero, List.set_cons_succ])
    refine wpAnyH_take (i := 7) (v := ?_) rfl (by kernel_rfl) (by kernel_rfl) (by kernel_rfl) (fun _ _ _ h => h) (Or.inl ⟨by kernel_rfl, ?_⟩) hHeld ?_
    rotate_left
    · (intro w hSw; first | (go_simp; done) | (go_simp; with_reducible rfl))
    (try simp only [Act.put, List.getElem_toArray, List.getElem_cons_succ, List.getElem_cons_zero, List.setIfInBounds_toArray, List.set_cons_zero, List.set_cons_succ])
    refine wpAnyH_take (i := 8) (v := ?_) rfl (by kernel_rfl) (by kernel_rfl) (by kernel_rfl) (fun _ _ _ h => h) (Or.inl ⟨by kernel_rfl, ?_⟩) hHeld ?_
    rotate_left
    · (intro w hSw; first | (go_simp; done) | (go_simp; with_reducible rfl))
    (try simp only [Act.put, List.getElem_toArray, List.getElem_cons_succ, List.getElem_cons_zero, List.setIfInBounds_toArray, List.set_cons_zero, List.set_cons_succ])
    refine wpAnyH_take (i := 9) (v := ?_) rfl (by kernel_rfl) (by kernel_rfl) (by kernel_rfl) (fun _ _ _ h => h) (Or.inl ⟨by kernel_rfl, ?_⟩) hHeld ?_
    rotate_left
    · (intro w hSw; first | (go_simp; done) | (go_simp; with_reducible rfl))
    (try simp only [Act.put, List.getElem_toArray, List.getElem_cons_succ, List.getElem_cons_zero, List.setIfInBounds_toArray, List.set_cons_zero, List.set_cons_succ])
    refine wpAnyH_take (i := 10) (v := ?_) rfl (by kernel_rfl) (by kernel_rfl) (by kernel_rfl) (fun _ _ _ h => h) (Or.inl ⟨by kernel_rfl, ?_⟩) hHeld ?_
    rotate_left
    · (intro w hSw; first | (go_simp; done) | (go_simp; with_reducible rfl))
    (try simp only [Act.put, List.getElem_toArray, List.getElem_cons_succ, List.getElem_cons_zero, List.setIfInBounds_toArray, List.set_cons_zero, List.set_cons_succ])
    refine wpAnyH_take (i := 13) (v := ?_) rfl (by kernel_rfl) (by kernel_rfl) (by kernel_rfl) (fun _ _ _ h => h) (Or.inl ⟨by kernel_rfl, ?_⟩) hHeld ?_
    rotate_left
    · (intro w hSw; first | (go_simp; done) | (go_simp; with_reducible rfl))
    (try simp only [Act.put, List.getElem_toArray, List.getElem_cons_succ, List.getElem_cons_zero, List.setIfInBounds_toArray, List.set_cons_zero, List.set_cons_succ])
    refine wpAnyH_take (i := 14) (v := ?_) rfl (by kernel_rfl) (by kernel_rfl) (by kernel_rfl) (fun _ _ _ h => h) (Or.inl ⟨by kernel_rfl, ?_⟩) hHeld ?_
    rotate_left
    · (intro w hSw; first | (go_simp; done) | (go_simp; with_reducible rfl))
    (try simp only [Act.put, List.getElem_toArray, List.getElem_cons_succ, List.getElem_cons_zero, List.setIfInBounds_toArray, List.set_cons_zero, List.set_cons_succ])
    refine wpAnyH_ready (rs := [4]) (by kernel_rfl) (by simp) (AllReadyH.cons rfl (fun K hK => ?_) AllReadyH.nil)
    have hH := hHeld
    (go_simp; skip)
    refine hK.out _ _ (by exact ⟨((Chg.refl [] _).alloc _).cell hH.1 (by simp), ((Chg.refl [] _).alloc _).cell hH.2 (by simp)⟩) (fun hHq1 => ?_)
    clear hK K hH 
    (try simp only [Act.put, List.getElem_toArray, List.getElem_cons_succ, List.getElem_cons_zero, List.setIfInBounds_toArray, List.set_cons_zero, List.set_cons_succ])
    refine wpAnyH_ready (rs := [6]) (by kernel_rfl) (by simp) (AllReadyH.cons rfl (fun K hK => ?_) AllReadyH.nil)
    have hH := hHq1
    (refine step_appK (by rfl) (.tmp 29) (.tmp 30) 37 (by rfl) 5 (.int .u8 0) 1 Tryz.underlying37 infoU8 rfl (.slice (some ⟨w1.heap.size, 0, none⟩) 0 0) [] (by rfl) HE1.out aO w1.heap.size nL cO (u8s FL) (by rfl) (by rw [u8s_length, HNL.out]) (HRO.out _ (HDD.out.alloc _)) (u8s_one _) (by simp; omega) (by simp; omega) ?_; intro v6 w6 K6)
    refine hK.out _ _ (by exact ⟨K6.out.chg.cell hH.1 (fun hm => by have := bl_some _ _ _ _ hm; omega), K6.out.chg.cell hH.2 (fun hm => by have := bl_some _ _ _ _ hm; omega)⟩) (fun hHq2 => ?_)
    clear hK K hH hHq1
    have h6 := new8_lit (HC1.out.trans (HDD.out.alloc _)) HS1.out K6.out; have hc6 : Chg [] w1 w6 := (HDD.out.alloc _).then K6.out.chg (fun x hx => .inr (by have := bl_some _ _ _ x hx; omega))
    (try simp only [Act.put, List.getElem_toArray, List.getElem_cons_succ, List.getElem_cons_zero, List.setIfInBounds_toArray, List.set_cons_zero, List.set_cons_succ])
    refine wpAnyH_ready (rs := [11]) (by kernel_rfl) (by simp) (AllReadyH.cons rfl (fun K hK => ?_) AllReadyH.nil)
    have hH := hHq2
    (go_simp; go_at_call 67; refine (HFWw.out _ hc6).mono ?_; rintro e w11 ⟨a11, c11, rfl, h11⟩)
    refine hK.out _ _ (by exact ⟨h11.chg.cell hH.1 (by simp), h11.chg.cell hH.2 (by simp)⟩) (fun hHq3 => ?_)
    clear hK K hH hHq2
    (try simp only [Act.put, List.getElem_toArray, List.getElem_cons_succ, List.getElem_cons_zero, List.setIfInBounds_toArray, List.set_cons_zero, List.set_cons_succ])
    refine wpAnyH_ready (rs := [12]) (by kernel_rfl) (by simp) (AllReadyH.cons rfl (fun K hK => ?_) AllReadyH.nil)
    have hH := hHq3
    (refine step_appK (by rfl) (.tmp 31) (.tmp 36) 37 (by rfl) 5 (.int .u8 0) 1 Tryz.underlying37 infoU8 rfl v6 (u8s FL) (by rfl) (h6.kept h11.chg).lst a11 w11.heap.size nW c11 (u8s FW) (by rfl) (by rw [u8s_length, HNW.out]) h11.ro (u8s_one _) (by rw [u8s_length, HNL.out]; omega) (by rw [u8s_length, HNL.out]; omega) ?_; intro v12 w12 K12)
    refine hK.out _ _ (by exact ⟨K12.out.chg.cell hH.1 (fun hm => by have := h6.low _ hm; omega), K12.out.chg.cell hH.2 (fun hm => by have := h6.low _ hm; omega)⟩) (fun hHq4 => ?_)
    clear hK K hH hHq3
    have HFIN := Lib.hid ((h6.kept h11.chg).more K12.out)
    (try simp only [Act.put, List.getElem_toArray, List.getElem_cons_succ, List.getElem_cons_zero, List.setIfInBounds_toArray, List.set_cons_zero, List.set_cons_succ])
    refine wpAnyH_take (i := 15) (v := ?_) rfl (by kernel_rfl) (by kernel_rfl) (by kernel_rfl) (fun _ _ _ h => h) (Or.inl ⟨by kernel_rfl, ?_⟩) hHq4 ?_
    rotate_left
    · (intro w hSw; first | (go_simp; done) | (go_simp; with_reducible rfl))
    (try simp only [Act.put, List.getElem_toArray, List.getElem_cons_succ, List.getElem_cons_zero, List.setIfInBounds_toArray, List.set_cons_zero, List.set_cons_succ])
    refine wpAnyH_take (i := 16) (v := ?_) rfl (by kernel_rfl) (by kernel_rfl) (by kernel_rfl) (fun _ _ _ h => h) (Or.inl ⟨by kernel_rfl, ?_⟩) hHq4 ?_
    rotate_left
    · (intro w hSw; first | (go_simp; done) | (go_simp; with_reducible rfl))
    (try simp only [Act.put, List.getElem_toArray, List.getElem_cons_succ, List.getElem_cons_zero, List.setIfInBounds_toArray, List.set_cons_zero, List.set_cons_succ])
    refine wpAnyH_take (i := 17) (v := ?_) rfl (by kernel_rfl) (by kernel_rfl) (by kernel_rfl) (fun _ _ _ h => h) (Or.inl ⟨by kernel_rfl, ?_⟩) hHq4 ?_
    rotate_left
    · (intro w hSw; first | (go_simp; done) | (go_simp; with_reducible rfl))
    (try simp only [Act.put, List.getElem_toArray, List.getElem_cons_succ, List.getElem_cons_zero, List.setIfInBounds_toArray, List.set_cons_zero, List.set_cons_succ])
    refine wpAnyH_done (by kernel_rfl) ?_ _
    have hEnd := hHq4
    (go_wp2_with fail; refine bodyPost_ret (v := .tuple #[.int .i64 (S.h : Int), v12, .int .i64 (nL : Int)]) (by simp [results, Tryz.results69, go_sem]) rfl ⟨v12, rfl, HFIN.out⟩)
  · have hd : decide (S.h ≠ S.h') = true := decide_eq_true hh
    rw [hd] at c4
    have hh' : S.h' = 1 - S.h := by have := ti.half; have := ti.half'; omega
    have hfr : fromS S = 0 := by unfold fromS; rw [if_neg hh]
    have hfs : waitL S = S.L' := waitL_new hh
    rw [hfs] at hfw
    obtain ⟨FW, HFW⟩ : ∃ x, Hid (frs S.L' = x) := ⟨_, Lib.hid rfl⟩
    obtain ⟨nW, HNW⟩ : ∃ x, Hid ((frs S.L').length = x) := ⟨_, Lib.hid rfl⟩
    simp only [HNW.out] at hfw
    simp only [HFW.out] at hfw
    have hf1 := hfw w.drew (Chg.refl [] w).drew
    have m1 : IntKind.i64.wrap (1 - (S.h : Int)) = (S.h' : Int) := by rw [IntKind.wrap_i64]; have := ti.half; omega
    rw [HFW.out, hfr]
    have HF1 := Lib.hid hf1
    have hst : (fun W : World => W.cell? ⟨u, 1, none⟩ = some (.int .i64 (S.h : Int)) ∧ W.cell? ⟨u, 3, none⟩ = some (.slice aW ys.length cW)) w.drew := ⟨c1, c3⟩
    clear t eL eW hlen hfl hfw hd hfr hfs hf1 c0 c1 c2 c3 c5 hh hh' HFW
    go_enter Tryz.func69, Tryz.ntmps69
    go_upto_region 2 with fail
    refine wp_region_held_drew (S := (fun W : World => W.cell? ⟨u, 1, none⟩ = some (.int .i64 (S.h : Int)) ∧ W.cell? ⟨u, 3, none⟩ = some (.slice aW ys.length cW))) (by kernel_rfl) hst (fun hHeld => ?_)
    refine wpAnyH_take (i := 0) (v := ?_) rfl (by kernel_rfl) (by kernel_rfl) (by kernel_rfl) (fun _ _ _ h => h) (Or.inl ⟨by kernel_rfl, ?_⟩) hHeld ?_
    rotate_left
    · (intro w hSw; first | (go_simp; done) | (go_simp; with_reducible rfl))
    (try simp only [Act.put, List.getElem_toArray, List.getElem_cons_succ, List.getElem_cons_zero, List.setIfInBounds_toArray, List.set_cons_zero, List.set_cons_succ])
    refine wpAnyH_take (i := 1) (v := ?_) rfl (by kernel_rfl) (by kernel_rfl) (by kernel_rfl) (fun _ _ _ h => h) (Or.inl ⟨by kernel_rfl, ?_⟩) hHeld ?_
    rotate_left
    · (intro w hSw; first | (go_simp; done) | (go_simp; with_reducible rfl))
    (try simp only [Act.put, List.getElem_toArray, List.getElem_cons_succ, List.getElem_cons_zero, List.setIfInBounds_toArray, List.set_cons_zero, List.set_cons_succ])
    refine wpAnyH_take (i := 2) (v := ?_) rfl (by kernel_rfl) (by kernel_rfl) (by kernel_rfl) (fun _ _ _ h => h) (Or.inl ⟨by kernel_rfl, ?_⟩) hHeld ?_
    rotate_left
    · (intro w hSw; first | (go_simp; done) | (go_simp; with_reducible rfl))
    (try simp only [Act.put, List.getElem_toArray, List.getElem_cons_succ, List.getElem_cons_zero, List.setIfInBounds_toArray, List.set_cons_zero, List.set_cons_succ])
    refine wpAnyH_take (i := 3) (v := ?_) rfl (by kernel_rfl) (by kernel_rfl) (by kernel_rfl) (fun _ _ _ h => h) (Or.inl ⟨by kernel_rfl, ?_⟩) hHeld ?_
    rotate_left
    · (intro w hSw; first | (go_simp; done) | (go_simp; with_reducible rfl))
    (try simp only [Act.put, List.getElem_toArray, List.getElem_cons_succ, List.getElem_cons_zero, List.setIfInBounds_toArray, List.set_cons_zero, List.set_cons_succ])
    refine wpAnyH_take (i := 4) (v := ?_) rfl (by kernel_rfl) (by kernel_rfl) (by kernel_rfl) (fun _ _ _ h => h) (Or.inl ⟨by kernel_rfl, ?_⟩) hHeld ?_
    rotate_left
    · (intro w hSw; first | (go_simp; done) | (go_simp; with_reducible rfl))
    (try simp only [Act.put, List.getElem_toArray, List.getElem_cons_succ, List.getElem_cons_zero, List.setIfInBounds_toArray, List.set_cons_zero, List.set_cons_succ])
    refine wpAnyH_take (i := 5) (v := ?_) rfl (by kernel_rfl) (by kernel_rfl) (by kernel_rfl) (fun _ _ _ h => h) (Or.inl ⟨by kernel_rfl, ?_⟩) hHeld ?_
    rotate_left
    · (intro w hSw; first | (go_simp; done) | (go_simp; with_reducible rfl))
    (try simp only [Act.put, List.getElem_toArray, List.getElem_cons_succ, List.getElem_cons_zero, List.setIfInBounds_toArray, List.set_cons_zero, List.set_cons_succ])
    refine wpAnyH_take (i := 6) (v := ?_) rfl (by kernel_rfl) (by kernel_rfl) (by kernel_rfl) (fun _ _ _ h => h) (Or.inl ⟨by kernel_rfl, ?_⟩) hHeld ?_
    rotate_left
    · (intro w hSw; first | (go_simp; done) | (go_simp; with_reducible rfl))
    (try simp only [Act.put, List.getElem_toArray, List.getElem_cons_succ, List.getElem_cons_zero, List.setIfInBounds_toArray, List.set_cons_zero, List.set_cons_succ])
    refine wpAnyH_take (i := 7) (v := ?_) rfl (by kernel_rfl) (by kernel_rfl) (by kernel_rfl) (fun _ _ _ h => h) (Or.inl ⟨by kernel_rfl, ?_⟩) hHeld ?_
    rotate_left
    · (intro w hSw; first | (go_simp; done) | (go_simp; with_reducible rfl))
    (try simp only [Act.put, List.getElem_toArray, List.getElem_cons_succ, List.getElem_cons_zero, List.setIfInBounds_toArray, List.set_cons_zero, List.set_cons_succ])
    refine wpAnyH_take (i := 8) (v := ?_) rfl (by kernel_rfl) (by kernel_rfl) (by kernel_rfl) (fun _ _ _ h => h) (Or.inl ⟨by kernel_rfl, ?_⟩) hHeld ?_
    rotate_left
    · (intro w hSw; first | (go_simp; done) | (go_simp; with_reducible rfl))
    (try simp only [Act.put, List.getElem_toArray, List.getElem_cons_succ, List.getElem_cons_zero, List.setIfInBounds_toArray, List.set_cons_zero, List.set_cons_succ])
    refine wpAnyH_ready (rs := [9]) (by kernel_rfl) (by simp) (AllReadyH.cons rfl (fun K hK => ?_) AllReadyH.nil)
    have hH := hHeld
    (go_simp; go_at_call 67; refine HF1.out.mono ?_; rintro e w9 ⟨a9, c9, rfl, h9⟩)
    refine hK.out _ _ (by exact ⟨h9.chg.cell hH.1 (by simp), h9.chg.cell hH.2 (by simp)⟩) (fun hHq1 => ?_)
    clear hK K hH 
    (try simp only [Act.put, List.getElem_toArray, List.getElem_cons_succ, List.getElem_cons_zero, List.setIfInBounds_toArray, List.set_cons_zero, List.set_cons_succ])
    refine wpAnyH_take (i := 10) (v := ?_) rfl (by kernel_rfl) (by kernel_rfl) (by kernel_rfl) (fun _ _ _ h => h) (Or.inl ⟨by kernel_rfl, ?_⟩) hHq1 ?_
    rotate_left
    · (intro w hSw; first | (go_simp; done) | (go_simp; with_reducible rfl))
    (try simp only [Act.put, List.getElem_toArray, List.getElem_cons_succ, List.getElem_cons_zero, List.setIfInBounds_toArray, List.set_cons_zero, List.set_cons_succ])
    refine wpAnyH_take (i := 11) (v := ?_) rfl (by kernel_rfl) (by kernel_rfl) (by kernel_rfl) (fun _ _ _ h => h) (Or.inl ⟨by kernel_rfl, ?_⟩) hHq1 ?_
    rotate_left
    · (intro w hSw; first | (go_simp; done) | (go_simp; with_reducible rfl))
    (try simp only [Act.put, List.getElem_toArray, List.getElem_cons_succ, List.getElem_cons_zero, List.setIfInBounds_toArray, List.set_cons_zero, List.set_cons_succ])
    refine wpAnyH_take (i := 12) (v := ?_) rfl (by kernel_rfl) (by kernel_rfl) (by kernel_rfl) (fun _ _ _ h => h) (Or.inl ⟨by kernel_rfl, ?_⟩) hHq1 ?_
    rotate_left
    · (intro w hSw; first | (go_simp; done) | (go_simp; with_reducible rfl))
    (try simp only [Act.put, List.getElem_toArray, List.getElem_cons_succ, List.getElem_cons_zero, List.setIfInBounds_toArray, List.set_cons_zero, List.set_cons_succ])
    refine wpAnyH_done (by kernel_rfl) ?_ _
    have hEnd := hHq1
    have HF9 := Lib.hid (show New8 w w9 (.slice a9 nW c9) FW from ⟨h9.lst, h9.low, (Chg.refl [] w).drew.trans h9.chg⟩)
    clear hEnd hst h9 HF1
    go_wp2_with fail
    refine bodyPost_ret (v := .tuple #[.int .i64 (S.h' : Int), .slice a9 nW c9, .int .i64 ((0 : Nat) : Int)]) (by simp [results, Tryz.results69, go_sem]) rfl ⟨_, rfl, HF9.out⟩
end
end Go.Proofs.YtdiemejdbakffaaGreat
