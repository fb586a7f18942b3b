/-
  Contracts of package tape's small methods: committing, replacing, Len, Waiting, Room. No claim of their own.
-/
import Derived.Test.YtdiemejdbakffaaGreatTpK
namespace Go.Proofs.YtdiemejdbakffaaGreat
open Go.RowKit Go.Deep
set_option linter.unusedVariables false
set_option linter.unusedSimpArgs false

theorem Lst.sl {w : World} {base : Nat} {e : TypeId} {v : Value} {xs : List Value} (h : Lst w base e v xs) : ∃ a c, v = .slice a xs.length c := by
  obtain ⟨a, c, h, _⟩ := h.form
  exact ⟨a, c, h⟩
theorem Lst.sl8 {w : World} {base : Nat} {e : TypeId} {v : Value} {bs : List UInt8} (h : Lst w base e v (u8s bs)) : ∃ a c, v = .slice a bs.length c := by
  obtain ⟨a, c, h⟩ := h.sl
  rw [u8s_length] at h
  exact ⟨a, c, h⟩
theorem Lst.slE {w : World} {base : Nat} {e : TypeId} {v : Value} {L : List Rec} (h : Lst w base e v (i64s (ens L))) : ∃ a c, v = .slice a L.length c := by
  obtain ⟨a, c, h⟩ := h.sl
  rw [i64s_length, ens_len] at h
  exact ⟨a, c, h⟩
section
variable {w : World} {l : List Nat} {q p n h h' : Nat} {L L' : List Rec} {k : Nat} {vF vE vF' vE' : Value}
theorem TpV.len_le (t : TpV w l q p n h h' L L' k vF vE vF' vE') (hn : n ≤ 1024) : (frs L).length ≤ 100000 ∧ (frs L').length ≤ 100000 ∧ L.length ≤ 100000 ∧ L'.length ≤ 100000 := by
  have h1 := t.room
  have h2 := t.room'
  have h3 := frs_ge t.ok
  have h4 := frs_ge t.ok'
  unfold hsec at h1 h2
  omega
theorem committing_any (t : TpV w l q p n h h' L L' k vF vE vF' vE') :
    Calls Tryz.prog 54 #[.pointer (some ⟨q, 0, none⟩)] w fun e w' => e = .returned (.bool (decide (0 < k))) ∧ w = w' := by
  have c7 := t.own.cell 7
  simp at c7
  clear t
  by_cases hk : 0 < k
  · have e1 : decide ((0 : Int) < (k : Int)) = true := by simp; omega
    rw [decide_eq_true hk]
    go_enter Tryz.func54, Tryz.ntmps54
    go_wp2
    go_ret
    exact ⟨rfl, rfl⟩
  · have e1 : decide ((0 : Int) < (k : Int)) = false := by simp; omega
    rw [decide_eq_false hk]
    go_enter Tryz.func54, Tryz.ntmps54
    go_wp2
    go_ret
    exact ⟨rfl, rfl⟩
theorem replacing_any (t : TpV w l q p n h h' L L' k vF vE vF' vE') :
    Calls Tryz.prog 55 #[.pointer (some ⟨q, 0, none⟩)] w fun e w' => e = .returned (.bool (decide (h ≠ h'))) ∧ Qt w w' := by
  have c1 := t.own.cell 1
  have c4 := t.own.cell 4
  simp at c1 c4
  clear t
  by_cases hk : h = h'
  · have e1 : ((h' : Int) == (h : Int)) = true := by simp; omega
    have e2 : ((h' : Int) != (h : Int)) = false := by simp; omega
    rw [decide_eq_false (show ¬ h ≠ h' from fun x => x hk)]
    clear hk
    go_enter Tryz.func55, Tryz.ntmps55
    go_wp2
    go_quiet (fail)
    go_wp2
    go_ret
    exact ⟨rfl, Qt.drewN _ _⟩
  · have e1 : ((h' : Int) == (h : Int)) = false := by simp; omega
    have e2 : ((h' : Int) != (h : Int)) = true := by simp; omega
    rw [decide_eq_true (show h ≠ h' from hk)]
    go_enter Tryz.func55, Tryz.ntmps55
    go_wp2
    go_quiet (fail)
    go_wp2
    go_ret
    exact ⟨rfl, Qt.drewN _ _⟩
theorem len_tape_nil (w : World) : Calls Tryz.prog 20 #[.pointer none] w fun e w' => e = .returned (.int .i64 0) ∧ w = w' := by
  go_enter Tryz.func20, Tryz.ntmps20
  go_wp2
  go_ret
  exact ⟨rfl, rfl⟩
theorem waiting_nil (w : World) : Calls Tryz.prog 48 #[.pointer none] w fun e w' => e = .returned (.int .i64 0) ∧ w = w' := by
  go_enter Tryz.func48, Tryz.ntmps48
  go_wp2
  go_ret
  exact ⟨rfl, rfl⟩
theorem room_nil (w : World) : Calls Tryz.prog 24 #[.pointer none] w fun e w' => e = .returned (.int .i64 0) ∧ w = w' := by
  go_enter Tryz.func24, Tryz.ntmps24
  go_wp2
  go_ret
  exact ⟨rfl, rfl⟩
theorem len_tape (t : TpV w l q p n h h' L L' k vF vE vF' vE') :
    Calls Tryz.prog 20 #[.pointer (some ⟨q, 0, none⟩)] w fun e w' => e = .returned (.int .i64 (L.length : Int)) ∧ Chg [] w w' := by
  obtain ⟨aF, cF, rfl⟩ := t.fr.sl8
  obtain ⟨aE, cE, rfl⟩ := t.en.slE
  have c1 := t.own.cell 1
  have c2 := t.own.cell 2
  have c3 := t.own.cell 3
  simp at c1 c2 c3
  clear t
  go_enter Tryz.func20, Tryz.ntmps20
  go_wp2_with (first | (go_at_call 50; refine (records_any _ h _ aE L.length cE).mono ?_; rintro e w' ⟨rfl, hc⟩) | fail)
  go_ret
  exact ⟨rfl, hc⟩
/-- how many wait -/
def waitN (h h' : Nat) (L L' : List Rec) : Nat := if h = h' then L'.length - L.length else L'.length
set_option maxRecDepth 100000 in
theorem waiting_tape (t : TpV w l q p n h h' L L' k vF vE vF' vE') (hn : n ≤ 1024) :
    Calls Tryz.prog 48 #[.pointer (some ⟨q, 0, none⟩)] w fun e w' => e = .returned (.int .i64 ((waitN h h' L L' : Nat) : Int)) ∧ Chg [] w w' := by
  have HR := Lib.hid (replacing_any t)
  have hle := t.len_le hn
  have hpre := t.pre
  obtain ⟨aF, cF, rfl⟩ := t.fr.sl8
  obtain ⟨aE, cE, rfl⟩ := t.en.slE
  obtain ⟨aF', cF', rfl⟩ := t.fr'.sl8
  obtain ⟨aE', cE', rfl⟩ := t.en'.slE
  obtain ⟨NF, HNF⟩ : ∃ N, Hid ((frs L).length = N) := ⟨_, Lib.hid rfl⟩
  obtain ⟨NF', HNF'⟩ : ∃ N, Hid ((frs L').length = N) := ⟨_, Lib.hid rfl⟩
  obtain ⟨NL, HNL⟩ : ∃ N, Hid (L.length = N) := ⟨_, Lib.hid rfl⟩
  obtain ⟨NL', HNL'⟩ : ∃ N, Hid (L'.length = N) := ⟨_, Lib.hid rfl⟩
  have HW := Lib.hid (show waitN h h' L L' = if h = h' then NL' - NL else NL' by unfold waitN; rw [HNL.out, HNL'.out])
  have HT := Lib.hid t
  have hle3 := hle.2.2
  rw [HNL.out, HNL'.out] at hle3
  have hll : h = h' → NL ≤ NL' := fun e => by
    obtain ⟨W, hW⟩ := hpre e
    rw [← HNL.out, ← HNL'.out, hW, List.length_append]
    omega
  rw [HNF.out, HNF'.out, HNL.out, HNL'.out] at HT
  clear t hle hpre
  by_cases hk : h = h'
  · have hll2 := hll hk
    have hd : decide (h ≠ h') = false := decide_eq_false (fun x => x hk)
    rw [hd] at HR
    have HW2 := Lib.hid (show waitN h h' L L' = NL' - NL by rw [HW.out, if_pos hk])
    rw [HW2.out]
    clear hk hll hd
    go_enter Tryz.func48, Tryz.ntmps48
    go_wp2_with fail
    refine HR.out.mono ?_
    rintro e w1 ⟨rfl, hq1⟩
    have HQ1 := Lib.hid hq1
    have ho := HT.out.own.qt hq1
    have c1 := ho.cell 1
    have c2 := ho.cell 2
    have c3 := ho.cell 3
    have c4 := ho.cell 4
    have c5 := ho.cell 5
    have c6 := ho.cell 6
    simp at c1 c2 c3 c4 c5 c6
    have HC := Lib.hid (And.intro c1 (And.intro c2 (And.intro c3 (And.intro c4 (And.intro c5 c6)))))
    have e1 : IntKind.i64.wrap ((NL' : Int) - (NL : Int)) = ((NL' - NL : Nat) : Int) := by rw [IntWalk.i64_in _ (by omega)]; omega
    clear hq1 ho c1 c2 c3 c4 c5 c6
    go_wp2_with fail
    refine wp_region_held_drew (S := (fun w' => w'.cell? ⟨q, 1, none⟩ = some (.int .i64 (h : Int)) ∧ w'.cell? ⟨q, 2, none⟩ = some (.slice aF NF cF) ∧ w'.cell? ⟨q, 3, none⟩ = some (.slice aE NL cE) ∧ w'.cell? ⟨q, 4, none⟩ = some (.int .i64 (h' : Int)) ∧ w'.cell? ⟨q, 5, none⟩ = some (.slice aF' NF' cF') ∧ w'.cell? ⟨q, 6, none⟩ = some (.slice aE' NL' cE'))) (by kernel_rfl) HC.out (fun hHeld => ?_)
    refine wpAnyH_take (i := 0) (v := ?_) rfl (by kernel_rfl) (by kernel_rfl) (by kernel_rfl) (fun _ _ _ h => h) (Or.inl ⟨by kernel_rfl, ?_⟩) hHeld ?_
    rotate_left
    · (intro w hSw; first | (go_simp; done) | (go_simp; with_reducible rfl))
    (try simp only [Act.put, List.getElem_toArray, List.getElem_cons_succ, List.getElem_cons_zero, List.setIfInBounds_toArray, List.set_cons_zero, List.set_cons_succ])
    refine wpAnyH_take (i := 1) (v := ?_) rfl (by kernel_rfl) (by kernel_rfl) (by kernel_rfl) (fun _ _ _ h => h) (Or.inl ⟨by kernel_rfl, ?_⟩) hHeld ?_
    rotate_left
    · (intro w hSw; first | (go_simp; done) | (go_simp; with_reducible rfl))
    (try simp only [Act.put, List.getElem_toArray, List.getElem_cons_succ, List.getElem_cons_zero, List.setIfInBounds_toArray, List.set_cons_zero, List.set_cons_succ])
    refine wpAnyH_take (i := 2) (v := ?_) rfl (by kernel_rfl) (by kernel_rfl) (by kernel_rfl) (fun _ _ _ h => h) (Or.inl ⟨by kernel_rfl, ?_⟩) hHeld ?_
    rotate_left
    · (intro w hSw; first | (go_simp; done) | (go_simp; with_reducible rfl))
    (try simp only [Act.put, List.getElem_toArray, List.getElem_cons_succ, List.getElem_cons_zero, List.setIfInBounds_toArray, List.set_cons_zero, List.set_cons_succ])
    refine wpAnyH_take (i := 3) (v := ?_) rfl (by kernel_rfl) (by kernel_rfl) (by kernel_rfl) (fun _ _ _ h => h) (Or.inl ⟨by kernel_rfl, ?_⟩) hHeld ?_
    rotate_left
    · (intro w hSw; first | (go_simp; done) | (go_simp; with_reducible rfl))
    (try simp only [Act.put, List.getElem_toArray, List.getElem_cons_succ, List.getElem_cons_zero, List.setIfInBounds_toArray, List.set_cons_zero, List.set_cons_succ])
    refine wpAnyH_take (i := 5) (v := ?_) rfl (by kernel_rfl) (by kernel_rfl) (by kernel_rfl) (fun _ _ _ h => h) (Or.inl ⟨by kernel_rfl, ?_⟩) hHeld ?_
    rotate_left
    · (intro w hSw; first | (go_simp; done) | (go_simp; with_reducible rfl))
    (try simp only [Act.put, List.getElem_toArray, List.getElem_cons_succ, List.getElem_cons_zero, List.setIfInBounds_toArray, List.set_cons_zero, List.set_cons_succ])
    refine wpAnyH_take (i := 6) (v := ?_) rfl (by kernel_rfl) (by kernel_rfl) (by kernel_rfl) (fun _ _ _ h => h) (Or.inl ⟨by kernel_rfl, ?_⟩) hHeld ?_
    rotate_left
    · (intro w hSw; first | (go_simp; done) | (go_simp; with_reducible rfl))
    (try simp only [Act.put, List.getElem_toArray, List.getElem_cons_succ, List.getElem_cons_zero, List.setIfInBounds_toArray, List.set_cons_zero, List.set_cons_succ])
    refine wpAnyH_take (i := 7) (v := ?_) rfl (by kernel_rfl) (by kernel_rfl) (by kernel_rfl) (fun _ _ _ h => h) (Or.inl ⟨by kernel_rfl, ?_⟩) hHeld ?_
    rotate_left
    · (intro w hSw; first | (go_simp; done) | (go_simp; with_reducible rfl))
    (try simp only [Act.put, List.getElem_toArray, List.getElem_cons_succ, List.getElem_cons_zero, List.setIfInBounds_toArray, List.set_cons_zero, List.set_cons_succ])
    refine wpAnyH_take (i := 8) (v := ?_) rfl (by kernel_rfl) (by kernel_rfl) (by kernel_rfl) (fun _ _ _ h => h) (Or.inl ⟨by kernel_rfl, ?_⟩) hHeld ?_
    rotate_left
    · (intro w hSw; first | (go_simp; done) | (go_simp; with_reducible rfl))
    (try simp only [Act.put, List.getElem_toArray, List.getElem_cons_succ, List.getElem_cons_zero, List.setIfInBounds_toArray, List.set_cons_zero, List.set_cons_succ])
    refine wpAnyH_ready (rs := [4]) (by kernel_rfl) (by simp) (AllReadyH.cons rfl (fun K hK => ?_) AllReadyH.nil)
    have hH := hHeld
    (go_simp; go_at_call 50; refine (records_any _ h' _ aE' NL' cE').mono ?_; rintro e w8 ⟨rfl, hc8⟩)
    refine hK.out _ _ (by exact ⟨hc8.cell hH.1 (by simp), hc8.cell hH.2.1 (by simp), hc8.cell hH.2.2.1 (by simp), hc8.cell hH.2.2.2.1 (by simp), hc8.cell hH.2.2.2.2.1 (by simp), hc8.cell hH.2.2.2.2.2 (by simp)⟩) (fun hHq1 => ?_)
    clear hK K hH 
    (try simp only [Act.put, List.getElem_toArray, List.getElem_cons_succ, List.getElem_cons_zero, List.setIfInBounds_toArray, List.set_cons_zero, List.set_cons_succ])
    refine wpAnyH_ready (rs := [9]) (by kernel_rfl) (by simp) (AllReadyH.cons rfl (fun K hK => ?_) AllReadyH.nil)
    have hH := hHq1
    (go_simp; go_at_call 50; refine (records_any _ h _ aE NL cE).mono ?_; rintro e w9 ⟨rfl, hc9⟩)
    refine hK.out _ _ (by exact ⟨hc9.cell hH.1 (by simp), hc9.cell hH.2.1 (by simp), hc9.cell hH.2.2.1 (by simp), hc9.cell hH.2.2.2.1 (by simp), hc9.cell hH.2.2.2.2.1 (by simp), hc9.cell hH.2.2.2.2.2 (by simp)⟩) (fun hHq2 => ?_)
    clear hK K hH hHq1
    (try simp only [Act.put, List.getElem_toArray, List.getElem_cons_succ, List.getElem_cons_zero, List.setIfInBounds_toArray, List.set_cons_zero, List.set_cons_succ])
    refine wpAnyH_take (i := 10) (v := ?_) rfl (by kernel_rfl) (by kernel_rfl) (by kernel_rfl) (fun _ _ _ h => h) (Or.inl ⟨by kernel_rfl, ?_⟩) hHq2 ?_
    rotate_left
    · (intro w hSw; first | (go_simp; done) | (go_simp; with_reducible rfl))
    (try simp only [Act.put, List.getElem_toArray, List.getElem_cons_succ, List.getElem_cons_zero, List.setIfInBounds_toArray, List.set_cons_zero, List.set_cons_succ])
    refine wpAnyH_take (i := 11) (v := ?_) rfl (by kernel_rfl) (by kernel_rfl) (by kernel_rfl) (fun _ _ _ h => h) (Or.inl ⟨by kernel_rfl, ?_⟩) hHq2 ?_
    rotate_left
    · (intro w hSw; first | (go_simp; done) | (go_simp; with_reducible rfl))
    (try simp only [Act.put, List.getElem_toArray, List.getElem_cons_succ, List.getElem_cons_zero, List.setIfInBounds_toArray, List.set_cons_zero, List.set_cons_succ])
    refine wpAnyH_done (by kernel_rfl) ?_ _
    have hEnd := hHq2
    clear hEnd hHeld hHq2
    go_wp2_with fail
    go_ret
    exact ⟨rfl, ((((Chg.refl [] w).qt HQ1.out).drew).trans hc8).trans hc9⟩
  · have hd : decide (h ≠ h') = true := decide_eq_true hk
    rw [hd] at HR
    have HW2 := Lib.hid (show waitN h h' L L' = NL' by rw [HW.out, if_neg hk])
    rw [HW2.out]
    clear hk hll hd
    go_enter Tryz.func48, Tryz.ntmps48
    go_wp2_with fail
    refine HR.out.mono ?_
    rintro e w1 ⟨rfl, hq1⟩
    have HQ1 := Lib.hid hq1
    have ho := HT.out.own.qt hq1
    have c4 := ho.cell 4
    have c5 := ho.cell 5
    have c6 := ho.cell 6
    simp at c4 c5 c6
    clear hq1 ho
    go_wp2_with (first | (go_at_call 50; refine (records_any _ h' _ aE' NL' cE').mono ?_; rintro e w' ⟨rfl, hc⟩) | fail)
    go_ret
    exact ⟨rfl, ((Chg.refl [] w).qt HQ1.out).trans hc⟩
/-- the room that is told -/
def roomN (n h h' : Nat) (L L' : List Rec) : Nat := hsec n * 64 - if h = h' then (frs L').length else (frs L).length
theorem room_tape {g b : Nat} {F : Nat → Sec} {m : Nat → Option Sec} (t : TpV w l q p n h h' L L' k vF vE vF' vE') (hd : Dsk w p g b n F m) :
    Calls Tryz.prog 24 #[.pointer (some ⟨q, 0, none⟩)] w fun e w' => e = .returned (.int .i64 ((roomN n h h' L L' : Nat) : Int)) ∧ Qt w w' := by
  have HR := Lib.hid (replacing_any t)
  have hle := t.len_le hd.top
  have hr1 := t.room
  have hr2 := t.room'
  have hs : hsec n * 64 ≤ 100000 := by have := hd.top; unfold hsec; omega
  obtain ⟨aF, cF, rfl⟩ := t.fr.sl8
  obtain ⟨aF', cF', rfl⟩ := t.fr'.sl8
  obtain ⟨s, HS⟩ : ∃ s, Hid (hsec n * 64 = s) := ⟨_, Lib.hid rfl⟩
  obtain ⟨NF, HNF⟩ : ∃ N, Hid ((frs L).length = N) := ⟨_, Lib.hid rfl⟩
  obtain ⟨NF', HNF'⟩ : ∃ N, Hid ((frs L').length = N) := ⟨_, Lib.hid rfl⟩
  have HW := Lib.hid (show roomN n h h' L L' = s - if h = h' then NF' else NF by unfold roomN; rw [HNF.out, HNF'.out, HS.out])
  rw [HNF.out] at hr1
  rw [HNF'.out] at hr2
  rw [HS.out] at hr1 hr2 hs
  have hq0 := t.own.cell 0
  have c2 := t.own.cell 2
  have c5 := t.own.cell 5
  simp at hq0 c2 c5
  rw [HNF.out] at c2
  rw [HNF'.out] at c5
  have hHS := fun k2 => halfSize_any (w.drewN k2) (show (w.drewN k2).cell? ⟨q, 0, none⟩ = _ from hq0) (hd.kept ((Chg.refl [] w).drewN k2))
  rw [HS.out] at hHS
  have HHS := Lib.hid hHS
  have HC := Lib.hid (And.intro c2 c5)
  clear t hle hHS hd hq0 c2 c5
  by_cases hk : h = h'
  · have hdd : decide (h ≠ h') = false := decide_eq_false (fun x => x hk)
    rw [hdd] at HR
    rw [HW.out, if_pos hk]
    have e1 : IntKind.i64.wrap ((s : Int) - (NF' : Int)) = ((s - NF' : Nat) : Int) := by rw [IntWalk.i64_in _ (by omega)]; omega
    clear hk hdd
    go_enter Tryz.func24, Tryz.ntmps24
    go_wp2_with fail
    refine HR.out.mono ?_
    rintro e w1 ⟨rfl, nn, rfl⟩
    have c5 := HC.out.2
    go_wp2_with fail
    go_quiet ((go_at_call 28; exact quiet2 (HHS.out _)))
    go_wp2
    go_ret
    exact ⟨ret_int (by omega), ((Qt.refl _).add _).add _⟩
  · have hdd : decide (h ≠ h') = true := decide_eq_true hk
    rw [hdd] at HR
    rw [HW.out, if_neg hk]
    have e1 : IntKind.i64.wrap ((s : Int) - (NF : Int)) = ((s - NF : Nat) : Int) := by rw [IntWalk.i64_in _ (by omega)]; omega
    clear hk hdd
    go_enter Tryz.func24, Tryz.ntmps24
    go_wp2_with fail
    refine HR.out.mono ?_
    rintro e w1 ⟨rfl, nn, rfl⟩
    have c2 := HC.out.1
    go_wp2_with fail
    go_quiet ((go_at_call 28; exact quiet2 (HHS.out _)))
    go_wp2
    go_ret
    exact ⟨ret_int (by omega), ((Qt.refl _).add _).add _⟩
end
end Go.Proofs.YtdiemejdbakffaaGreat
