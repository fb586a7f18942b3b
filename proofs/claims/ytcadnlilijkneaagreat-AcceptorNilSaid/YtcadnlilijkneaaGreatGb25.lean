/-
  Contracts of package tape's small methods: committing, replacing, Len, Waiting, Room. No claim of their own.
-/
import Derived.Test.YtcadnlilijkneaaGreatGb24
namespace Go.Proofs.YtcadnlilijkneaaGreat
open Go.RowKit Go.Deep
set_option linter.unusedVariables false
set_option linter.unusedSimpArgs false

theorem Lst.sl {w : World} {base : Nat} {e : TypeId} {v : Value} {xs : List Value} (h : Lst w base e v xs) : ∃ a c, v = .slice a xs.length c := by
  obtain ⟨a, c, h, _⟩ := h.form
  exact ⟨a, c, h⟩
theorem Lst.sl8 {w : World} {base : Nat} {e : TypeId} {v : Value} {bs : List UInt8} (h : Lst w base e v (u8s bs)) : ∃ a c, v = .slice a bs.length c := by
  obtain ⟨a, c, h⟩ := h.sl
  rw [u8s_length] at h
  exact ⟨a, c, h⟩
theorem Lst.slE {w : World} {base : Nat} {e : TypeId} {v : Value} {L : List Rec} (h : Lst w base e v (i64s (ens L))) : ∃ a c, v = .slice a L.length c := by
  obtain ⟨a, c, h⟩ := h.sl
  rw [i64s_length, ens_len] at h
  exact ⟨a, c, h⟩
section
variable {w : World} {l : List Nat} {q p n h h' : Nat} {L L' : List Rec} {k : Nat} {vF vE vF' vE' : Value}
theorem TpV.len_le (t : TpV w l q p n h h' L L' k vF vE vF' vE') (hn : n ≤ 1024) : (frs L).length ≤ 100000 ∧ (frs L').length ≤ 100000 ∧ L.length ≤ 100000 ∧ L'.length ≤ 100000 := by
  have h1 := t.room
  have h2 := t.room'
  have h3 := frs_ge t.ok
  have h4 := frs_ge t.ok'
  unfold hsec at h1 h2
  omega
theorem committing_any (t : TpV w l q p n h h' L L' k vF vE vF' vE') :
    Calls Tryz.prog 141 #[.pointer (some ⟨q, 0, none⟩)] w fun e w' => e = .returned (.bool (decide (0 < k))) ∧ w = w' := by
  have c7 := t.own.cell 7
  simp at c7
  clear t
  by_cases hk : 0 < k
  · have e1 : decide ((0 : Int) < (k : Int)) = true := by simp; omega
    rw [decide_eq_true hk]
    go_enter Tryz.func141, Tryz.ntmps141
    go_wp2
    go_ret
    exact ⟨rfl, rfl⟩
  · have e1 : decide ((0 : Int) < (k : Int)) = false := by simp; omega
    rw [decide_eq_false hk]
    go_enter Tryz.func141, Tryz.ntmps141
    go_wp2
    go_ret
    exact ⟨rfl, rfl⟩
theorem replacing_any (t : TpV w l q p n h h' L L' k vF vE vF' vE') :
    Calls Tryz.prog 142 #[.pointer (some ⟨q, 0, none⟩)] w fun e w' => e = .returned (.bool (decide (h ≠ h'))) ∧ Qt w w' := by
  have c1 := t.own.cell 1
  have c4 := t.own.cell 4
  simp at c1 c4
  clear t
  by_cases hk : h = h'
  · have e1 : ((h' : Int) == (h : Int)) = true := by simp; omega
    have e2 : ((h' : Int) != (h : Int)) = false := by simp; omega
    rw [decide_eq_false (show ¬ h ≠ h' from fun x => x hk)]
    clear hk
    go_enter Tryz.func142, Tryz.ntmps142
    go_wp2
    go_quiet (fail)
    go_wp2
    go_ret
    exact ⟨rfl, Qt.drewN _ _⟩
  · have e1 : ((h' : Int) == (h : Int)) = false := by simp; omega
    have e2 : ((h' : Int) != (h : Int)) = true := by simp; omega
    rw [decide_eq_true (show h ≠ h' from hk)]
    go_enter Tryz.func142, Tryz.ntmps142
    go_wp2
    go_quiet (fail)
    go_wp2
    go_ret
    exact ⟨rfl, Qt.drewN _ _⟩
theorem len_tape (t : TpV w l q p n h h' L L' k vF vE vF' vE') :
    Calls Tryz.prog 75 #[.pointer (some ⟨q, 0, none⟩)] w fun e w' => e = .returned (.int .i64 (L.length : Int)) ∧ Chg [] w w' := by
  obtain ⟨aF, cF, rfl⟩ := t.fr.sl8
  obtain ⟨aE, cE, rfl⟩ := t.en.slE
  have c1 := t.own.cell 1
  have c2 := t.own.cell 2
  have c3 := t.own.cell 3
  simp at c1 c2 c3
  clear t
  go_enter Tryz.func75, Tryz.ntmps75
  go_wp2_with (first | (go_at_call 122; refine (records_any _ h _ aE L.length cE).mono ?_; rintro e w' ⟨rfl, hc⟩) | fail)
  go_ret
  exact ⟨rfl, hc⟩
def waitN (h h' : Nat) (L L' : List Rec) : Nat := if h = h' then L'.length - L.length else L'.length
set_option maxRecDepth 100000 in
theorem waiting_tape (t : TpV w l q p n h h' L L' k vF vE vF' vE') (hn : n ≤ 1024) :
    Calls Tryz.prog 200 #[.pointer (some ⟨q, 0, none⟩)] w fun e w' => e = .returned (.int .i64 ((waitN h h' L L' : Nat) : Int)) ∧ Chg [] w w' := by
  have HR := Lib.hid (replacing_any t)
  have hle := t.len_le hn
  have hpre := t.pre
  obtain ⟨aF, cF, rfl⟩ := t.fr.sl8
  obtain ⟨aE, cE, rfl⟩ := t.en.slE
  obtain ⟨aF', cF', rfl⟩ := t.fr'.sl8
  obtain ⟨aE', cE', rfl⟩ := t.en'.slE
  obtain ⟨NF, HNF⟩ : ∃ N, Hid ((frs L).length = N) := ⟨_, Lib.hid rfl⟩
  obtain ⟨NF', HNF'⟩ : ∃ N, Hid ((frs L').length = N) := ⟨_, Lib.hid rfl⟩
  obtain ⟨NL, HNL⟩ : ∃ N, Hid (L.length = N) := ⟨_, Lib.hid rfl⟩
  obtain ⟨NL', HNL'⟩ : ∃ N, Hid (L'.length = N) := ⟨_, Lib.hid rfl⟩
  have HW := Lib.hid (show waitN h h' L L' = if h = h' then NL' - NL else NL' by unfold waitN; rw [HNL.out, HNL'.out])
  have HT := Lib.hid t
  have hle3 := hle.2.2
  rw [HNL.out, HNL'.out] at hle3
  have hll : h = h' → NL ≤ NL' := fun e => by
    obtain ⟨W, hW⟩ := hpre e
    rw [← HNL.out, ← HNL'.out, hW, List.length_append]
    omega
  rw [HNF.out, HNF'.out, HNL.out, HNL'.out] at HT
  clear t hle hpre
  by_cases hk : h = h'
  · have hll2 := hll hk
    have hd : decide (h ≠ h') = false := decide_eq_false (fun x => x hk)
    rw [hd] at HR
    have HW2 := Lib.hid (show waitN h h' L L' = NL' - NL by rw [HW.out, if_pos hk])
    rw [HW2.out]
    clear hk hll hd
    go_enter Tryz.func200, Tryz.ntmps200
    go_wp2_with fail
    refine HR.out.mono ?_
    rintro e w1 ⟨rfl, hq1⟩
    have HQ1 := Lib.hid hq1
    have ho := HT.out.own.qt hq1
    have c1 := ho.cell 1
    have c2 := ho.cell 2
    have c3 := ho.cell 3
    have c4 := ho.cell 4
    have c5 := ho.cell 5
    have c6 := ho.cell 6
    simp at c1 c2 c3 c4 c5 c6
    have HC := Lib.hid (And.intro c1 (And.intro c2 (And.intro c3 (And.intro c4 (And.intro c5 c6)))))
    have e1 : IntKind.i64.wrap ((NL' : Int) - (NL : Int)) = ((NL' - NL : Nat) : Int) := by rw [IntWalk.i64_in _ (by omega)]; omega
    clear hq1 ho c1 c2 c3 c4 c5 c6
    go_wp2_with fail
    refine wp_region_held_drew (S := (fun w' => w'.cell? ⟨q, 1, none⟩ = some (.int .i64 (h : Int)) ∧ w'.cell? ⟨q, 2, none⟩ = some (.slice aF NF cF) ∧ w'.cell? ⟨q, 3, none⟩ = some (.slice aE NL cE) ∧ w'.cell? ⟨q, 4, none⟩ = some (.int .i64 (h' : Int)) ∧ w'.cell? ⟨q, 5, none⟩ = some (.slice aF' NF' cF') ∧ w'.cell? ⟨q, 6, none⟩ = some (.slice aE' NL' cE'))) (by kernel_rfl) HC.out (fun hHeld => ?_)
    refine wpAnyH_take (i := 0) (v := ?_) rfl (by kernel_rfl) (by kernel_rfl) (by kernel_rfl) (fun _ _ _ h => h) (Or.inl ⟨by kernel_rfl, ?_⟩) hHeld ?_
    rotate_left
    · (intro w hSw; first | (go_simp; done) | (go_simp; with_reducible rfl))
    (try simp only [Act.put, List.getElem_toArray, List.getElem_cons_succ, List.getElem_cons_zero, List.setIfInBounds_toArray, List.set_cons_zero, List.set_cons_succ])
    refine wpAnyH_take (i := 1) (v := ?_) rfl (by kernel_rfl) (by kernel_rfl) (by kernel_rfl) (fun _ _ _ h => h) (Or.inl ⟨by kernel_rfl, ?_⟩) hHeld ?_
    rotate_left
    · (intro w hSw; first | (go_simp; done) | (go_simp; with_reducible rfl))
    (try simp only [Act.put, List.getElem_toArray, List.getElem_cons_succ, List.getElem_cons_zero, List.setIfInBounds_toArray, List.set_cons_zero, List.set_cons_succ])
    refine wpAnyH_take (i := 2) (v := ?_) rfl (by kernel_rfl) (by kernel_rfl) (by kernel_rfl) (fun _ _ _ h => h) (Or.inl ⟨by kernel_rfl, ?_⟩) hHeld ?_
    rotate_left
    · (intro w hSw; first | (go_simp; done) | (go_simp; with_reducible rfl))
    (try simp only [Act.put, List.getElem_toArray, List.getElem_cons_succ, List.getElem_cons_zero, List.setIfInBounds_toArray, List.set_cons_zero, List.set_cons_succ])
    refine wpAnyH_take (i := 3) (v := ?_) rfl (by kernel_rfl) (by kernel_rfl) (by kernel_rfl) (fun _ _ _ h => h) (Or.inl ⟨by kernel_rfl, ?_⟩) hHeld ?_
    rotate_left
    · (intro w hSw; first | (go_simp; done) | (go_simp; with_reducible rfl))
    (try simp only [Act.put, List.getElem_toArray, List.getElem_cons_succ, List.getElem_cons_zero, List.setIfInBounds_toArray, List.set_cons_zero, List.set_cons_succ])
    refine wpAnyH_take (i := 5) (v := ?_) rfl (by kernel_rfl) (by kernel_rfl) (by kernel_rfl) (fun _ _ _ h => h) (Or.inl ⟨by kernel_rfl, ?_⟩) hHeld ?_
    rotate_left
    · (intro w hSw; first | (go_simp; done) | (go_simp; with_reducible rfl))
    (try simp only [Act.put, List.getElem_toArray, List.getElem_cons_succ, List.getElem_cons_zero, List.setIfInBounds_toArray, List.set_cons_zero, List.set_cons_succ])
    refine wpAnyH_take (i := 6) (v := ?_) rfl (by kernel_rfl) (by kernel_rfl) (by kernel_rfl) (fun _ _ _ h => h) (Or.inl ⟨by kernel_rfl, ?_⟩) hHeld ?_
    rotate_left
    · (intro w hSw; first | (go_simp; done) | (go_simp; with_reducible rfl))
    (try simp only [Act.put, List.getElem_toArray, List.getElem_cons_succ, List.getElem_cons_zero, List.setIfInBounds_toArray, List.set_cons_zero, List.set_cons_succ])
    refine wpAnyH_take (i := 7) (v := ?_) rfl (by kernel_rfl) (by kernel_rfl) (by kernel_rfl) (fun _ _ _ h => h) (Or.inl ⟨by kernel_rfl, ?_⟩) hHeld ?_
    rotate_left
    · (intro w hSw; first | (go_simp; done) | (go_simp; with_reducible rfl))
    (try simp only [Act.put, List.getElem_toArray, List.getElem_cons_succ, List.getElem_cons_zero, List.setIfInBounds_toArray, List.set_cons_zero, List.set_cons_succ])
    refine wpAnyH_take (i := 8) (v := ?_) rfl (by kernel_rfl) (by kernel_rfl) (by kernel_rfl) (fun _ _ _ h => h) (Or.inl ⟨by kernel_rfl, ?_⟩) hHeld ?_
    rotate_left
    · (intro w hSw; first | (go_simp; done) | (go_simp; with_reducible rfl))
    (try simp only [Act.put, List.getElem_toArray, List.getElem_cons_succ, List.getElem_cons_zero, List.setIfInBounds_toArray, List.set_cons_zero, List.set_cons_succ])
    refine wpAnyH_ready (rs := [4]) (by kernel_rfl) (by simp) (AllReadyH.cons rfl (fun K hK => ?_) AllReadyH.nil)
    have hH := hHeld
    (go_simp; go_at_call 122; refine (records_any _ h' _ aE' NL' cE').mono ?_; rintro e w8 ⟨rfl, hc8⟩)
    refine hK.out _ _ (by exact ⟨hc8.cell hH.1 (by simp), hc8.cell hH.2.1 (by simp), hc8.cell hH.2.2.1 (by simp), hc8.cell hH.2.2.2.1 (by simp), hc8.cell hH.2.2.2.2.1 (by simp), hc8.cell hH.2.2.2.2.2 (by simp)⟩) (fun hHq1 => ?_)
    clear hK K hH 
    (try simp only [Act.put, List.getElem_toArray, List.getElem_cons_succ, List.getElem_cons_zero, List.setIfInBounds_toArray, List.set_cons_zero, List.set_cons_succ])
    refine wpAnyH_ready (rs := [9]) (by kernel_rfl) (by simp) (AllReadyH.cons rfl (fun K hK => ?_) AllReadyH.nil)
    have hH := hHq1
    (go_simp; go_at_call 122; refine (records_any _ h _ aE NL cE).mono ?_; rintro e w9 ⟨rfl, hc9⟩)
    refine hK.out _ _ (by exact ⟨hc9.cell hH.1 (by simp), hc9.cell hH.2.1 (by simp), hc9.cell hH.2.2.1 (by simp), hc9.cell hH.2.2.2.1 (by simp), hc9.cell hH.2.2.2.2.1 (by simp), hc9.cell hH.2.2.2.2.2 (by simp)⟩) (fun hHq2 => ?_)
    clear hK K hH hHq1
    (try simp only [Act.put, List.getElem_toArray, List.getElem_cons_succ, List.getElem_cons_zero, List.setIfInBounds_toArray, List.set_cons_zero, List.set_cons_succ])
    refine wpAnyH_take (i := 10) (v := ?_) rfl (by kernel_rfl) (by kernel_rfl) (by kernel_rfl) (fun _ _ _ h => h) (Or.inl ⟨by kernel_rfl, ?_⟩) hHq2 ?_
    rotate_left
    · (intro w hSw; first | (go_simp; done) | (go_simp; with_reducible rfl))
    (try simp only [Act.put, List.getElem_toArray, List.getElem_cons_succ, List.getElem_cons_zero, List.setIfInBounds_toArray, List.set_cons_zero, List.set_cons_succ])
    refine wpAnyH_take (i := 11) (v := ?_) rfl (by kernel_rfl) (by kernel_rfl) (by kernel_rfl) (fun _ _ _ h => h) (Or.inl ⟨by kernel_rfl, ?_⟩) hHq2 ?_
    rotate_left
    · (intro w hSw; first | (go_simp; done) | (go_simp; with_reducible rfl))
    (try simp only [Act.put, List.getElem_toArray, List.getElem_cons_succ, List.getElem_cons_zero, List.setIfInBounds_toArray, List.set_cons_zero, List.set_cons_succ])
    refine wpAnyH_done (by kernel_rfl) ?_ _
    have hEnd := hHq2
    clear hEnd hHeld hHq2
    go_wp2_with fail
    go_ret
    exact ⟨rfl, ((((Chg.refl [] w).qt HQ1.out).drew).trans hc8).trans hc9⟩
  · have hd : decide (h ≠ h') = true := decide_eq_true hk
    rw [hd] at HR
    have HW2 := Lib.hid (show waitN h h' L L' = NL' by rw [HW.out, if_neg hk])
    rw [HW2.out]
    clear hk hll hd
    go_enter Tryz.func200, Tryz.ntmps200
    go_wp2_with fail
    refine HR.out.mono ?_
    rintro e w1 ⟨rfl, hq1⟩
    have HQ1 := Lib.hid hq1
    have ho := HT.out.own.qt hq1
    have c4 := ho.cell 4
    have c5 := ho.cell 5
    have c6 := ho.cell 6
    simp at c4 c5 c6
    clear hq1 ho
    go_wp2_with (first | (go_at_call 122; refine (records_any _ h' _ aE' NL' cE').mono ?_; rintro e w' ⟨rfl, hc⟩) | fail)
    go_ret
    exact ⟨rfl, ((Chg.refl [] w).qt HQ1.out).trans hc⟩
def roomN (n h h' : Nat) (L L' : List Rec) : Nat := hsec n * 64 - if h = h' then (frs L').length else (frs L).length
theorem room_tape {g b : Nat} {F : Nat → Sec} {m : Nat → Option Sec} (t : TpV w l q p n h h' L L' k vF vE vF' vE') (hd : Dsk w p g b n F m) :
    Calls Tryz.prog 144 #[.pointer (some ⟨q, 0, none⟩)] w fun e w' => e = .returned (.int .i64 ((roomN n h h' L L' : Nat) : Int)) ∧ Qt w w' := by
  have HR := Lib.hid (replacing_any t)
  have hle := t.len_le hd.top
  have hr1 := t.room
  have hr2 := t.room'
  have hs : hsec n * 64 ≤ 100000 := by have := hd.top; unfold hsec; omega
  obtain ⟨aF, cF, rfl⟩ := t.fr.sl8
  obtain ⟨aF', cF', rfl⟩ := t.fr'.sl8
  obtain ⟨s, HS⟩ : ∃ s, Hid (hsec n * 64 = s) := ⟨_, Lib.hid rfl⟩
  obtain ⟨NF, HNF⟩ : ∃ N, Hid ((frs L).length = N) := ⟨_, Lib.hid rfl⟩
  obtain ⟨NF', HNF'⟩ : ∃ N, Hid ((frs L').length = N) := ⟨_, Lib.hid rfl⟩
  have HW := Lib.hid (show roomN n h h' L L' = s - if h = h' then NF' else NF by unfold roomN; rw [HNF.out, HNF'.out, HS.out])
  rw [HNF.out] at hr1
  rw [HNF'.out] at hr2
  rw [HS.out] at hr1 hr2 hs
  have hq0 := t.own.cell 0
  have c2 := t.own.cell 2
  have c5 := t.own.cell 5
  simp at hq0 c2 c5
  rw [HNF.out] at c2
  rw [HNF'.out] at c5
  have hHS := fun k2 => halfSize_any (w.drewN k2) (show (w.drewN k2).cell? ⟨q, 0, none⟩ = _ from hq0) (hd.kept ((Chg.refl [] w).drewN k2))
  rw [HS.out] at hHS
  have HHS := Lib.hid hHS
  have HC := Lib.hid (And.intro c2 c5)
  clear t hle hHS hd hq0 c2 c5
  by_cases hk : h = h'
  · have hdd : decide (h ≠ h') = false := decide_eq_false (fun x => x hk)
    rw [hdd] at HR
    rw [HW.out, if_pos hk]
    have e1 : IntKind.i64.wrap ((s : Int) - (NF' : Int)) = ((s - NF' : Nat) : Int) := by rw [IntWalk.i64_in _ (by omega)]; omega
    clear hk hdd
    go_enter Tryz.func144, Tryz.ntmps144
    go_wp2_with fail
    refine HR.out.mono ?_
    rintro e w1 ⟨rfl, nn, rfl⟩
    have c5 := HC.out.2
    go_wp2_with fail
    go_quiet ((go_at_call 118; exact quiet2 (HHS.out _)))
    go_wp2
    go_ret
    exact ⟨ret_int (by omega), ((Qt.refl _).add _).add _⟩
  · have hdd : decide (h ≠ h') = true := decide_eq_true hk
    rw [hdd] at HR
    rw [HW.out, if_neg hk]
    have e1 : IntKind.i64.wrap ((s : Int) - (NF : Int)) = ((s - NF : Nat) : Int) := by rw [IntWalk.i64_in _ (by omega)]; omega
    clear hk hdd
    go_enter Tryz.func144, Tryz.ntmps144
    go_wp2_with fail
    refine HR.out.mono ?_
    rintro e w1 ⟨rfl, nn, rfl⟩
    have c2 := HC.out.1
    go_wp2_with fail
    go_quiet ((go_at_call 118; exact quiet2 (HHS.out _)))
    go_wp2
    go_ret
    exact ⟨ret_int (by omega), ((Qt.refl _).add _).add _⟩
end
end Go.Proofs.YtcadnlilijkneaaGreat
namespace Go.Proofs.YtcadnlilijkneaaGreat
open Go.RowKit Go.Deep Go.Shelf
set_option linter.unusedVariables false
set_option linter.unusedSimpArgs false

theorem ne_tp_u8 : 215 ≠ 5 := by decide
theorem ne_tp_int : 215 ≠ 3 := by decide
section
variable {w : World} {l : List Nat} {q p n h h' : Nat} {L L' : List Rec} {k : Nat} {vF vE vF' vE' : Value}
theorem TpV.more {w2 W : World} {vF2 vE2 : Value} {r : Rec} (t : TpV w l q p n h h' L L' k vF vE vF' vE') (K : WithK w w2 vF' vE' vF2 vE2 L' r) (hW : Chg [q] w2 W)
    (ho : Own W q 215 [.pointer (some ⟨p, 0, none⟩), .int .i64 (h : Int), vF, vE, .int .i64 (h' : Int), vF2, vE2, .int .i64 (k : Int)]) (hr : okR r) (hroom : (frs L').length + 2 + r.length ≤ hsec n * 64) :
    TpV W (l ++ bl vF2 ++ bl vE2) q p n h h' L (L' ++ [r]) k vF vE vF2 vE2 ∧ (∀ x ∈ l ++ bl vF2 ++ bl vE2, x ∈ l ∨ w.heap.size ≤ x) ∧ Chg l w W := by
  have hq2 : Own w2 q 215 _ := t.own.chg K.chg (fun hx => by
    rcases List.mem_append.1 hx with hx | hx
    · obtain ⟨c, hc⟩ := t.fr'.typ (mem_bl.1 hx)
      have := t.own
      unfold Own at this
      rw [hc] at this
      cases this
    · obtain ⟨c, hc⟩ := t.en'.typ (mem_bl.1 hx)
      have := t.own
      unfold Own at this
      rw [hc] at this
      cases this)
  have h8 : ∀ u zs, Lst w2 0 5 u zs → Lst W 0 5 u zs := fun u zs hu => hu.other hW (fun g hg _ => by simp at hg; subst hg; exact ⟨_, _, _, hq2, ne_tp_u8⟩)
  have hI : ∀ u zs, Lst w2 0 3 u zs → Lst W 0 3 u zs := fun u zs hu => hu.other hW (fun g hg _ => by simp at hg; subst hg; exact ⟨_, _, _, hq2, ne_tp_int⟩)
  have hlen : (frs (L' ++ [r])).length = (frs L').length + 2 + r.length := frs_snoc_len L' r
  have hb : ∀ x ∈ l ++ bl vF2 ++ bl vE2, x ∈ l ∨ w.heap.size ≤ x := fun x hx => by
    rcases List.mem_append.1 hx with hx | hx
    · rcases List.mem_append.1 hx with hx | hx
      · exact .inl hx
      · rcases K.sameF x hx with h1 | h1
        · exact .inl (t.memv x (.inr (.inr (.inl h1))))
        · exact .inr h1
    · rcases K.sameE x hx with h1 | h1
      · exact .inl (t.memv x (.inr (.inr (.inr h1))))
      · exact .inr h1
  refine ⟨⟨ho, h8 _ _ (K.keepF _ _ t.fr (fun g h1 h2 => by rw [u8s_length]; exact t.alF g h1 h2)), hI _ _ (K.keepE _ _ t.en (fun g h1 h2 => by rw [i64s_length, ens_len]; exact t.alE g h1 h2)), h8 _ _ K.fr, hI _ _ K.en, ?_, ?_, by simp [t.memq], ?_, t.half, t.half', t.step, t.ok, t.ok'.snoc hr, t.room, by omega, ?_, ?_⟩, hb, ?_⟩
  · intro g h1 h2
    rcases K.sameF g (mem_bl.2 h2) with h3 | h3
    · have := t.alF g h1 (mem_bl.1 h3); omega
    · have := (t.fr.lt g h1).2; omega
  · intro g h1 h2
    rw [List.length_append]
    rcases K.sameE g (mem_bl.2 h2) with h3 | h3
    · have := t.alE g h1 (mem_bl.1 h3); omega
    · have := (t.en.lt g h1).2; omega
  · rintro x (h1 | h1 | h1 | h1)
    · exact List.mem_append.2 (.inl (List.mem_append.2 (.inl (t.memv x (.inl h1)))))
    · exact List.mem_append.2 (.inl (List.mem_append.2 (.inl (t.memv x (.inr (.inl h1))))))
    · simp [h1]
    · simp [h1]
  · intro e
    obtain ⟨W2, hW2⟩ := t.pre e
    exact ⟨W2 ++ [r], by rw [hW2, List.append_assoc]⟩
  · intro hk
    rcases t.busy hk with h1 | h1
    · exact .inl h1
    · right; rw [List.length_append]; omega
  · have h1 : Chg l w w2 := K.chg.mono (fun x hx => .inl (by
      rcases List.mem_append.1 hx with hx | hx
      · exact t.memv x (.inr (.inr (.inl hx)))
      · exact t.memv x (.inr (.inr (.inr hx)))))
    exact h1.then hW (fun x hx => .inl (by simp at hx; subst hx; exact t.memq))
def appE (n k h h' : Nat) (L L' : List Rec) (b : Rec) : Nat := if ¬ okR b then 1 else if 0 < k ∨ h ≠ h' then 131 else if roomN n h h' L L' < 2 + b.length then 61 else 0
def appL (n k h h' : Nat) (L L' : List Rec) (b : Rec) : List Rec := if appE n k h h' L L' b = 0 then L' ++ [b] else L'
def TpT (w : World) (l : List Nat) (q p n h h' : Nat) (L L' : List Rec) (k : Nat) (w' : World) : Prop := ∃ l', Tp w' l' q p n h h' L L' k ∧ (∀ x ∈ l', x ∈ l ∨ w.heap.size ≤ x) ∧ Chg l w w'
theorem TpT.same {w' : World} (t : Tp w l q p n h h' L L' k) (hc : Chg [] w w') : TpT w l q p n h h' L L' k w' := ⟨l, t.kept hc, fun x hx => .inl hx, hc.mono (by simp)⟩
set_option maxHeartbeats 1000000 in
set_option maxRecDepth 100000 in
theorem append_tape {g bb : Nat} {F : Nat → Sec} {m : Nat → Option Sec} (t : TpV w l q p n h h' L L' k vF vE vF' vE') (hd : Dsk w p g bb n F m) (a : Option Addr) (b : Rec) (c B : Nat) (hro : Ro w B a (u8s b)) (hB : B ≤ w.heap.size) (hsep : okR b → ∀ x, a = some x → x.block ∉ l) :
    Calls Tryz.prog 89 #[.pointer (some ⟨q, 0, none⟩), .slice a b.length c] w fun e w' => e = .returned (.int .i64 ((appE n k h h' L L' b : Nat) : Int)) ∧ TpT w l q p n h h' L (appL n k h h' L L' b) k w' := by
  have HT := Lib.hid t
  have HI := Lib.hid (isRecord_any w a b.length c)
  have hT : Tp w l q p n h h' L L' k := ⟨_, _, _, _, t⟩
  by_cases hr : okR b
  · have hrd : decide (1 ≤ b.length ∧ b.length ≤ 300) = true := decide_eq_true hr
    rw [hrd] at HI
    have HCM := Lib.hid (committing_any t)
    by_cases hk : 0 < k
    · have HE := Lib.hid (show appE n k h h' L L' b = 131 by unfold appE; rw [if_neg (fun x => x hr), if_pos (.inl hk)])
      have HL := Lib.hid (show appL n k h h' L L' b = L' by unfold appL; rw [HE.out]; rfl)
      rw [HE.out, HL.out]
      rw [decide_eq_true hk] at HCM
      clear t hk hr hrd hro hsep
      go_enter Tryz.func89, Tryz.ntmps89
      go_wp2_with (first
        | (go_at_call 140; refine HI.out.mono ?_; rintro e w' ⟨rfl, rfl⟩)
        | (go_at_call 141; refine HCM.out.mono ?_; rintro e w' ⟨rfl, rfl⟩)
        | fail)
      go_ret
      exact ⟨rfl, TpT.same hT (Chg.refl _ _)⟩
    · rw [decide_eq_false hk] at HCM
      have HRP := Lib.hid (replacing_any t)
      by_cases hh : h = h'
      · rw [decide_eq_false (show ¬ h ≠ h' from fun x => x hh)] at HRP
        have HRM := Lib.hid (fun nn => room_tape (t.kept ((Chg.refl [] w).drewN nn)) (hd.kept ((Chg.refl [] w).drewN nn)))
        have HFS := Lib.hid (fun W => frameSize_any W a b.length c (by have := hr.2; omega))
        have hrl : roomN n h h' L L' ≤ 100000 := by have := hd.top; unfold roomN hsec; omega
        obtain ⟨R, HR⟩ : ∃ R, Hid (roomN n h h' L L' = R) := ⟨_, Lib.hid rfl⟩
        obtain ⟨N, HN⟩ : ∃ N, Hid (b.length = N) := ⟨_, Lib.hid rfl⟩
        rw [HR.out] at HRM hrl
        have hb3 : N ≤ 300 := by rw [← HN.out]; exact hr.2
        obtain ⟨M, HM⟩ : ∃ M, Hid (2 + b.length = M) := ⟨_, Lib.hid rfl⟩
        rw [HM.out] at HFS
        have hM3 : M ≤ 400 := by rw [← HM.out]; have := hr.2; omega
        rw [HN.out] at HI HFS ⊢
        by_cases hgt : R < M
        · have HE := Lib.hid (show appE n k h h' L L' b = 61 by unfold appE; rw [if_neg (fun x => x hr), if_neg (by omega), if_pos (by rw [HR.out, HM.out]; exact hgt)])
          have HL := Lib.hid (show appL n k h h' L L' b = L' by unfold appL; rw [HE.out]; rfl)
          rw [HE.out, HL.out]
          have hd1 : decide (R < M) = true := by simpa using hgt
          clear t hk hr hrd hro hsep hh hgt hd
          go_enter Tryz.func89, Tryz.ntmps89
          go_wp2_with (first
            | (go_at_call 140; refine HI.out.mono ?_; rintro e w' ⟨rfl, rfl⟩)
            | (go_at_call 141; refine HCM.out.mono ?_; rintro e w' ⟨rfl, rfl⟩)
            | (go_at_call 142; refine HRP.out.mono ?_; rintro e w' ⟨rfl, nn, rfl⟩)
            | (go_at_call 143; refine (HFS.out _).mono ?_; rintro e w' ⟨rfl, rfl⟩)
            | (go_at_call 144; refine (HRM.out _).mono ?_; rintro e w' ⟨rfl, n2, rfl⟩)
            | fail)
          go_ret
          exact ⟨rfl, TpT.same hT ((Chg.refl [] w).drewN _)⟩
        · have HE := Lib.hid (show appE n k h h' L L' b = 0 by unfold appE; rw [if_neg (fun x => x hr), if_neg (by omega), if_neg (by rw [HR.out, HM.out]; exact hgt)])
          have HL := Lib.hid (show appL n k h h' L L' b = L' ++ [b] by unfold appL; rw [if_pos HE.out])
          rw [HE.out, HL.out]
          have hd1 : decide (R < M) = false := by simpa using hgt
          have HG := Lib.hid (show (frs L').length + 2 + b.length ≤ hsec n * 64 by
            have h1 := HR.out
            unfold roomN at h1
            rw [if_pos hh] at h1
            have h2 := HM.out
            have h3 := t.room'
            omega)
          have HOK := Lib.hid hr
          have hle := t.len_le hd.top
          obtain ⟨aF', cF', rfl⟩ := t.fr'.sl8
          obtain ⟨aE', cE', rfl⟩ := t.en'.slE
          have HW := Lib.hid (fun W (hW : Chg [] w W) => with_any W h' aF' aE' (frs L').length cF' L'.length cE' L' a b c B (t.fr'.kept0 hW) (t.en'.kept0 hW) (hro.chgs hW (fun x _ => by simp)) (Nat.le_trans hB hW.size) (fun x hx hm => hsep hr x hx (t.memv _ (.inr (.inr (.inl hm))))) hr t.ok' (by omega))
          obtain ⟨NF, HNF⟩ : ∃ N, Hid ((frs L').length = N) := ⟨_, Lib.hid rfl⟩
          obtain ⟨NL, HNL⟩ : ∃ N, Hid (L'.length = N) := ⟨_, Lib.hid rfl⟩
          rw [HNF.out, HNL.out] at HW HT
          rw [HN.out] at HW
          have c4 := HT.out.own.cell 4
          have c5 := HT.out.own.cell 5
          have c6 := HT.out.own.cell 6
          simp at c4 c5 c6
          clear t hk hr hrd hro hsep hh hgt hle hT
          go_enter Tryz.func89, Tryz.ntmps89
          go_wp2_with (first
            | (go_at_call 140; refine HI.out.mono ?_; rintro e w' ⟨rfl, rfl⟩)
            | (go_at_call 141; refine HCM.out.mono ?_; rintro e w' ⟨rfl, rfl⟩)
            | (go_at_call 142; refine HRP.out.mono ?_; rintro e w' ⟨rfl, nn, rfl⟩)
            | (go_at_call 143; refine (HFS.out _).mono ?_; rintro e w' ⟨rfl, rfl⟩)
            | (go_at_call 144; refine (HRM.out _).mono ?_; rintro e w' ⟨rfl, n2, rfl⟩)
            | fail)
          refine (HW.out _ ((Chg.refl [] w).drewN _)).mono ?_
          rintro e w2 ⟨vF2, vE2, rfl, HK⟩
          obtain ⟨aF2, cF2, rfl⟩ := HK.out.fr.sl8
          obtain ⟨aE2, cE2, rfl⟩ := HK.out.en.slE
          obtain ⟨N2, HN2⟩ : ∃ N, Hid ((frs (L' ++ [b])).length = N) := ⟨_, Lib.hid rfl⟩
          obtain ⟨M2, HM2⟩ : ∃ N, Hid ((L' ++ [b]).length = N) := ⟨_, Lib.hid rfl⟩
          rw [HN2.out, HM2.out] at HK ⊢
          have ht2 := HT.out.kept ((Chg.refl [] w).drewN (nn + n2))
          have hq2 := ht2.own.chg HK.out.chg (fun hx => by
            rcases List.mem_append.1 hx with hx | hx
            · obtain ⟨c, hc⟩ := ht2.fr'.typ (mem_bl.1 hx)
              have := ht2.own
              unfold Own at this
              rw [hc] at this
              cases this
            · obtain ⟨c, hc⟩ := ht2.en'.typ (mem_bl.1 hx)
              have := ht2.own
              unfold Own at this
              rw [hc] at this
              cases this)
          have d4 := hq2.cell 4
          have d5 := hq2.cell 5
          have d6 := hq2.cell 6
          have f4 := hq2.frozen 4
          have f5 := hq2.frozen 5
          have f6 := hq2.frozen 6
          simp at d4 d5 d6
          have HQ2 := Lib.hid hq2
          have HT2 := Lib.hid ht2
          clear hq2 ht2 c4 c5 c6
          go_wp2_with fail
          go_ret
          obtain ⟨r1, r2, r3⟩ := HT2.out.more HK.out (((Chg.refl [q] w2).setCell (by simp) _).setCell (by simp) _ |>.setCell (by simp) _) (((HQ2.out.set 4 (.int .i64 (h' : Int))).set 5 (.slice aF2 N2 cF2)).set 6 (.slice aE2 M2 cE2)) HOK.out HG.out
          exact ⟨rfl, _, ⟨_, _, _, _, r1⟩, r2, (((Chg.refl [] w).drewN _).mono (by simp)).trans r3⟩
      · have HE := Lib.hid (show appE n k h h' L L' b = 131 by unfold appE; rw [if_neg (fun x => x hr), if_pos (.inr hh)])
        have HL := Lib.hid (show appL n k h h' L L' b = L' by unfold appL; rw [HE.out]; rfl)
        rw [HE.out, HL.out]
        rw [decide_eq_true (show h ≠ h' from hh)] at HRP
        clear t hk hr hrd hro hsep hh
        go_enter Tryz.func89, Tryz.ntmps89
        go_wp2_with (first
          | (go_at_call 140; refine HI.out.mono ?_; rintro e w' ⟨rfl, rfl⟩)
          | (go_at_call 141; refine HCM.out.mono ?_; rintro e w' ⟨rfl, rfl⟩)
          | (go_at_call 142; refine HRP.out.mono ?_; rintro e w' ⟨rfl, nn, rfl⟩)
          | fail)
        go_ret
        exact ⟨rfl, TpT.same hT ((Chg.refl [] w).drewN _)⟩
  · have HE := Lib.hid (show appE n k h h' L L' b = 1 by unfold appE; rw [if_pos hr])
    have HL := Lib.hid (show appL n k h h' L L' b = L' by unfold appL; rw [HE.out]; rfl)
    rw [HE.out, HL.out]
    rw [decide_eq_false (show ¬ (1 ≤ b.length ∧ b.length ≤ 300) from hr)] at HI
    clear t hr hro hsep
    go_enter Tryz.func89, Tryz.ntmps89
    go_wp2_with (first
      | (go_at_call 140; refine HI.out.mono ?_; rintro e w' ⟨rfl, rfl⟩)
      | fail)
    go_ret
    exact ⟨rfl, TpT.same hT (Chg.refl _ _)⟩
end
end Go.Proofs.YtcadnlilijkneaaGreat
namespace Go.Proofs.YtcadnlilijkneaaGreat
open Go.RowKit Go.Deep Go.Shelf
set_option linter.unusedVariables false
set_option linter.unusedSimpArgs false

structure SB where
  a : Option Addr
  bs : Rec
  c : Nat
def SB.val (x : SB) : Value := .slice x.a x.bs.length x.c
structure RoL (w : World) (B : Nat) (a : Option Addr) (xs : List SB) : Prop where
  row : Ro w B a (xs.map SB.val)
  el : ∀ x ∈ xs, Ro w B x.a (u8s x.bs) ∧ x.bs.length ≤ 140737488355328
def Sep (l : List Nat) (a : Option Addr) (xs : List SB) : Prop := (xs ≠ [] → ∀ x, a = some x → x.block ∉ l) ∧ ∀ y ∈ xs, y.bs ≠ [] → ∀ x, y.a = some x → x.block ∉ l
theorem Ro.chgs2 {l : List Nat} {w w' : World} {B : Nat} {a : Option Addr} {vs : List Value} (h : Ro w B a vs) (hc : Chg l w w') (hl : vs ≠ [] → ∀ x, a = some x → x.block ∉ l) : Ro w' B a vs := by
  by_cases h0 : vs = []
  · exact .inl h0
  · exact h.chgs hc (hl h0)
theorem RoL.chgs {l : List Nat} {w w' : World} {B : Nat} {a : Option Addr} {xs : List SB} (h : RoL w B a xs) (hc : Chg l w w') (hs : Sep l a xs) : RoL w' B a xs :=
  ⟨h.row.chgs2 hc (fun h0 => hs.1 (fun e => h0 (by rw [e]; rfl))), fun x hx => ⟨(h.el x hx).1.chgs2 hc (fun h0 => hs.2 x hx (fun e => h0 (by rw [e]; rfl))), (h.el x hx).2⟩⟩
theorem RoL.kept {w w' : World} {B : Nat} {a : Option Addr} {xs : List SB} (h : RoL w B a xs) (hc : Chg [] w w') : RoL w' B a xs := h.chgs hc ⟨fun _ _ _ => by simp, fun _ _ _ _ _ => by simp⟩
theorem RoL.mono {w : World} {B B' : Nat} {a : Option Addr} {xs : List SB} (h : RoL w B a xs) (hB : B ≤ B') : RoL w B' a xs := ⟨h.row.mono hB, fun x hx => ⟨(h.el x hx).1.mono hB, (h.el x hx).2⟩⟩
theorem RoL.at_ {w : World} {B : Nat} {a : Option Addr} {xs : List SB} (h : RoL w B a xs) {k : Nat} (hk : k < xs.length) : ∃ b off, a = some ⟨b, off, none⟩ ∧ b < B ∧ ∀ i (hi : i < xs.length), w.cell? ⟨b, off + i, none⟩ = some (xs[i]).val := by
  obtain ⟨b, off, h1, h2, h3⟩ := h.row.at_ (by intro e; have := congrArg List.length e; simp only [List.length_map, List.length_nil] at this; omega)
  refine ⟨b, off, h1, h2, fun i hi => ?_⟩
  rw [h3 i (by simpa using hi)]
  simp [List.getD, hi]
def allR (xs : List SB) : Prop := ∀ x ∈ xs, okR x.bs
instance (xs : List SB) : Decidable (allR xs) := by unfold allR; infer_instance
def recs (xs : List SB) : List Rec := xs.map (·.bs)
@[simp] theorem recs_len (xs : List SB) : (recs xs).length = xs.length := by simp [recs]
theorem allR.okL {xs : List SB} (h : allR xs) : okL (recs xs) := fun r hr => by
  obtain ⟨x, hx, rfl⟩ := List.mem_map.1 hr
  exact h x hx
end Go.Proofs.YtcadnlilijkneaaGreat
