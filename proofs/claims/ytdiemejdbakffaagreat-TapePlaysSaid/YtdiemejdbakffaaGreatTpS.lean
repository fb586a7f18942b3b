/-
  Contracts of package tape's writeSuper, settle, steps. No claim of their own.
-/
import Derived.Test.YtdiemejdbakffaaGreatTpQ
import Derived.Test.YtdiemejdbakffaaGreatDkF
namespace Go.Proofs.YtdiemejdbakffaaGreat
open Go.RowKit Go.Shelf Go.Deep Go.Maps
set_option linter.unusedVariables false
set_option linter.unusedSimpArgs false

section
variable {w : World} {l : List Nat} {q p n h h' : Nat} {L L' : List Rec} {k : Nat} {vF vE vF' vE' : Value}
set_option maxHeartbeats 4000000 in
set_option maxRecDepth 100000 in
theorem writeSuper_any {g b : Nat} {F : Nat → Sec} {m : Nat → Option Sec} (t : TpV w l q p n h h' L L' k vF vE vF' vE') (hd : Dsk w p g b n F m) (hbl : b ∉ l) :
    Calls Tryz.prog 79 #[.pointer (some ⟨q, 0, none⟩)] w fun e w' => e = .returned (.int .i64 0) ∧ Hid (Dsk w' p g b n F (upd m 0 (supS h' L'.length (frs L').length))) ∧ Chg [b] w w' := by
  have hn := hd.top
  have hn1 := hd.one
  have hle := t.len_le hn
  have hh' := t.half'
  obtain ⟨aF', cF', rfl⟩ := t.fr'.sl8
  obtain ⟨aE', cE', rfl⟩ := t.en'.slE
  obtain ⟨N, HN⟩ : ∃ N, Hid ((frs L').length = N) := ⟨_, Lib.hid rfl⟩
  obtain ⟨NL, HNL⟩ : ∃ N, Hid (L'.length = N) := ⟨_, Lib.hid rfl⟩
  rw [HN.out, HNL.out] at t hle ⊢
  have hbq : q ≠ b := fun e => hbl (by rw [← e]; exact t.memq)
  have c0 := t.own.cell 0
  have c4 := t.own.cell 4
  have c5 := t.own.cell 5
  have c6 := t.own.cell 6
  simp at c0 c4 c5 c6
  have HC := Lib.hid (And.intro c0 (And.intro c4 (And.intro c5 c6)))
  obtain ⟨T, HTT⟩ : ∃ T, Hid (supS h' NL N = T) := ⟨_, Lib.hid rfl⟩
  have hSU := fun W => super_any W h' aF' aE' N cF' NL cE' hh' (by omega) (by omega)
  have hSC := fun W => sector_any W h' NL N (by omega) (by omega) (by omega)
  have hWR : ∀ W6, Chg [] w W6 → Calls Tryz.prog 13 #[.pointer (some ⟨p, 0, none⟩), .int .i64 0, sv T] W6 fun e w' => e = .returned (.int .i64 0) ∧ Hid (Dsk w' p g b n F (upd m 0 T)) ∧ Chg [b] W6 w' := fun W6 hc6 => by
    have h6 := write_ok W6 (hd.kept hc6) 0 (by omega) T (by rw [← HTT.out]; exact supS_len _ _ _)
    exact h6.mono fun e w' h => ⟨h.1, Lib.hid h.2.1, h.2.2⟩
  simp only [HTT.out] at hSC ⊢
  have HSU := Lib.hid hSU
  have HSC := Lib.hid hSC
  have HWR := Lib.hid hWR
  clear t hd hbl c0 c4 c5 c6 hSU hSC hWR
  go_enter Tryz.func79, Tryz.ntmps79
  go_wp2_with fail
  refine wp_region_held_drew (S := (fun w' => w'.cell? ⟨q, 0, none⟩ = some (.pointer (some ⟨p, 0, none⟩)) ∧ w'.cell? ⟨q, 4, none⟩ = some (.int .i64 (h' : Int)) ∧ w'.cell? ⟨q, 5, none⟩ = some (.slice aF' N cF') ∧ w'.cell? ⟨q, 6, none⟩ = some (.slice aE' NL cE'))) (by kernel_rfl) HC.out (fun hHeld => ?_)
  refine wpAnyH_take (i := 0) (v := ?_) rfl (by kernel_rfl) (by kernel_rfl) (by kernel_rfl) (fun _ _ _ h => h) (Or.inl ⟨by kernel_rfl, ?_⟩) hHeld ?_
  rotate_left
  · (intro w hSw; first | (go_simp; done) | (go_simp; with_reducible rfl))
  (try simp only [Act.put, List.getElem_toArray, List.getElem_cons_succ, List.getElem_cons_zero, List.setIfInBounds_toArray, List.set_cons_zero, List.set_cons_succ])
  refine wpAnyH_take (i := 1) (v := ?_) rfl (by kernel_rfl) (by kernel_rfl) (by kernel_rfl) (fun _ _ _ h => h) (Or.inl ⟨by kernel_rfl, ?_⟩) hHeld ?_
  rotate_left
  · (intro w hSw; first | (go_simp; done) | (go_simp; with_reducible rfl))
  (try simp only [Act.put, List.getElem_toArray, List.getElem_cons_succ, List.getElem_cons_zero, List.setIfInBounds_toArray, List.set_cons_zero, List.set_cons_succ])
  refine wpAnyH_take (i := 2) (v := ?_) rfl (by kernel_rfl) (by kernel_rfl) (by kernel_rfl) (fun _ _ _ h => h) (Or.inl ⟨by kernel_rfl, ?_⟩) hHeld ?_
  rotate_left
  · (intro w hSw; first | (go_simp; done) | (go_simp; with_reducible rfl))
  (try simp only [Act.put, List.getElem_toArray, List.getElem_cons_succ, List.getElem_cons_zero, List.setIfInBounds_toArray, List.set_cons_zero, List.set_cons_succ])
  refine wpAnyH_take (i := 3) (v := ?_) rfl (by kernel_rfl) (by kernel_rfl) (by kernel_rfl) (fun _ _ _ h => h) (Or.inl ⟨by kernel_rfl, ?_⟩) hHeld ?_
  rotate_left
  · (intro w hSw; first | (go_simp; done) | (go_simp; with_reducible rfl))
  (try simp only [Act.put, List.getElem_toArray, List.getElem_cons_succ, List.getElem_cons_zero, List.setIfInBounds_toArray, List.set_cons_zero, List.set_cons_succ])
  refine wpAnyH_take (i := 4) (v := ?_) rfl (by kernel_rfl) (by kernel_rfl) (by kernel_rfl) (fun _ _ _ h => h) (Or.inl ⟨by kernel_rfl, ?_⟩) hHeld ?_
  rotate_left
  · (intro w hSw; first | (go_simp; done) | (go_simp; with_reducible rfl))
  (try simp only [Act.put, List.getElem_toArray, List.getElem_cons_succ, List.getElem_cons_zero, List.setIfInBounds_toArray, List.set_cons_zero, List.set_cons_succ])
  refine wpAnyH_take (i := 5) (v := ?_) rfl (by kernel_rfl) (by kernel_rfl) (by kernel_rfl) (fun _ _ _ h => h) (Or.inl ⟨by kernel_rfl, ?_⟩) hHeld ?_
  rotate_left
  · (intro w hSw; first | (go_simp; done) | (go_simp; with_reducible rfl))
  (try simp only [Act.put, List.getElem_toArray, List.getElem_cons_succ, List.getElem_cons_zero, List.setIfInBounds_toArray, List.set_cons_zero, List.set_cons_succ])
  refine wpAnyH_take (i := 6) (v := ?_) rfl (by kernel_rfl) (by kernel_rfl) (by kernel_rfl) (fun _ _ _ h => h) (Or.inl ⟨by kernel_rfl, ?_⟩) hHeld ?_
  rotate_left
  · (intro w hSw; first | (go_simp; done) | (go_simp; with_reducible rfl))
  (try simp only [Act.put, List.getElem_toArray, List.getElem_cons_succ, List.getElem_cons_zero, List.setIfInBounds_toArray, List.set_cons_zero, List.set_cons_succ])
  refine wpAnyH_take (i := 7) (v := ?_) rfl (by kernel_rfl) (by kernel_rfl) (by kernel_rfl) (fun _ _ _ h => h) (Or.inl ⟨by kernel_rfl, ?_⟩) hHeld ?_
  rotate_left
  · (intro w hSw; first | (go_simp; done) | (go_simp; with_reducible rfl))
  (try simp only [Act.put, List.getElem_toArray, List.getElem_cons_succ, List.getElem_cons_zero, List.setIfInBounds_toArray, List.set_cons_zero, List.set_cons_succ])
  refine wpAnyH_ready (rs := [8]) (by kernel_rfl) (by simp) (AllReadyH.cons rfl (fun K hK => ?_) AllReadyH.nil)
  have hH := hHeld
  (go_simp; go_at_call 31; refine (HSU.out _).mono ?_; rintro e w7 ⟨rfl, hc7⟩)
  refine hK.out _ _ (by exact ⟨hc7.cell hH.1 (by simp), hc7.cell hH.2.1 (by simp), hc7.cell hH.2.2.1 (by simp), hc7.cell hH.2.2.2 (by simp)⟩) (fun hHq1 => ?_)
  clear hK K hH 
  (try simp only [Act.put, List.getElem_toArray, List.getElem_cons_succ, List.getElem_cons_zero, List.setIfInBounds_toArray, List.set_cons_zero, List.set_cons_succ])
  refine wpAnyH_ready (rs := [9]) (by kernel_rfl) (by simp) (AllReadyH.cons rfl (fun K hK => ?_) AllReadyH.nil)
  have hH := hHq1
  (go_simp; go_at_call 59; refine (HSC.out _).mono ?_; rintro e w8 ⟨rfl, hc8⟩)
  refine hK.out _ _ (by exact ⟨hc8.cell hH.1 (by simp), hc8.cell hH.2.1 (by simp), hc8.cell hH.2.2.1 (by simp), hc8.cell hH.2.2.2 (by simp)⟩) (fun hHq2 => ?_)
  clear hK K hH hHq1
  (try simp only [Act.put, List.getElem_toArray, List.getElem_cons_succ, List.getElem_cons_zero, List.setIfInBounds_toArray, List.set_cons_zero, List.set_cons_succ])
  refine wpAnyH_ready (rs := [10]) (by kernel_rfl) (by simp) (AllReadyH.cons rfl (fun K hK => ?_) AllReadyH.nil)
  have hH := hHq2
  (go_simp; go_at_call 13; refine (HWR.out _ ((((Chg.refl [] w).drew).trans hc7).trans hc8)).mono ?_; rintro e w9 ⟨rfl, hd9, hc9⟩)
  refine hK.out _ _ (by exact ⟨hc9.cell hH.1 (by simpa using hbq), hc9.cell hH.2.1 (by simpa using hbq), hc9.cell hH.2.2.1 (by simpa using hbq), hc9.cell hH.2.2.2 (by simpa using hbq)⟩) (fun hHq3 => ?_)
  clear hK K hH hHq2
  (try simp only [Act.put, List.getElem_toArray, List.getElem_cons_succ, List.getElem_cons_zero, List.setIfInBounds_toArray, List.set_cons_zero, List.set_cons_succ])
  refine wpAnyH_take (i := 11) (v := ?_) rfl (by kernel_rfl) (by kernel_rfl) (by kernel_rfl) (fun _ _ _ h => h) (Or.inl ⟨by kernel_rfl, ?_⟩) hHq3 ?_
  rotate_left
  · (intro w hSw; first | (go_simp; done) | (go_simp; with_reducible rfl))
  (try simp only [Act.put, List.getElem_toArray, List.getElem_cons_succ, List.getElem_cons_zero, List.setIfInBounds_toArray, List.set_cons_zero, List.set_cons_succ])
  refine wpAnyH_done (by kernel_rfl) ?_ _
  have hEnd := hHq3
  clear hEnd hHeld hHq3
  go_wp2_with fail
  go_ret
  exact ⟨rfl, hd9, (((((Chg.refl [] w).drew).trans hc7).trans hc8).mono (by simp)).trans hc9⟩
theorem TpV.ne_p {g b : Nat} {F : Nat → Sec} {m : Nat → Option Sec} (t : TpV w l q p n h h' L L' k vF vE vF' vE') (hd : Dsk w p g b n F m) : q ≠ p := by
  rintro rfl
  obtain ⟨c, hc⟩ := hd.flu
  have h1 := t.own.cell 0
  rw [hc] at h1
  simp at h1
theorem settle_any {g b : Nat} {F : Nat → Sec} {m : Nat → Option Sec} (t : TpV w l q p n h h' L L' k vF vE vF' vE') (hd : Dsk w p g b n F m) (hbl : b ∉ l) (hgl : g ∉ l) :
    Calls Tryz.prog 80 #[.pointer (some ⟨q, 0, none⟩)] w fun e w' => e = .returned (.int .i64 0) ∧ Hid (Dsk w' p g b n (now F m) (fun _ => none) ∧ Own w' q 70 [.pointer (some ⟨p, 0, none⟩), .int .i64 (h' : Int), vF', vE', .int .i64 (h' : Int), vF', vE', .int .i64 (k : Int)] ∧ ∃ w1, Chg [g, b] w w1 ∧ Chg [q] w1 w') := by
  have hq0 := t.own.cell 0
  simp at hq0
  have HF := Lib.hid (flush_ok w hd)
  have HT := Lib.hid t
  have hqp := t.ne_p hd
  obtain ⟨aF', cF', rfl⟩ := t.fr'.sl8
  obtain ⟨aE', cE', rfl⟩ := t.en'.slE
  have HL := Lib.hid (And.intro hbl hgl)
  clear t hd hbl hgl
  go_enter Tryz.func80, Tryz.ntmps80
  go_wp2_with fail
  refine HF.out.mono ?_
  rintro e w2 ⟨rfl, hd2, hc2⟩
  have hqg : q ∉ [g, b] := fun hm => by
    have h1 := HT.out.memq
    simp at hm
    rcases hm with rfl | rfl
    · exact HL.out.2 h1
    · exact HL.out.1 h1
  have ho2 := HT.out.own.chg hc2 hqg
  have c1 := ho2.cell 1
  have c2 := ho2.cell 2
  have c3 := ho2.cell 3
  have c4 := ho2.cell 4
  have c5 := ho2.cell 5
  have c6 := ho2.cell 6
  have f1 := ho2.frozen 1
  have f2 := ho2.frozen 2
  have f3 := ho2.frozen 3
  simp at c1 c2 c3 c4 c5 c6
  have HO := Lib.hid ho2
  have HD2 := Lib.hid (And.intro hd2 (And.intro hc2 (And.intro hqp hqg)))
  clear ho2 hd2 hc2 hqg hq0 hqp
  go_wp2_with fail
  go_ret
  obtain ⟨hd2, hc2, hqp, hqg⟩ := HD2.out
  simp at hqg
  have hcq : Chg [q] w2 _ := ((((Chg.refl [q] w2).setCell (p := ⟨q, 1, none⟩) (by simp) (.int .i64 (h' : Int))).setCell (p := ⟨q, 2, none⟩) (by simp) (.slice aF' (frs L').length cF')).setCell (p := ⟨q, 3, none⟩) (by simp) (.slice aE' L'.length cE'))
  exact ⟨rfl, Lib.hid ⟨hd2.keep hcq (by simpa using fun e => hqp e.symm) (by simpa using fun e => hqg.1 e.symm) (by simpa using fun e => hqg.2 e.symm), ((HO.out.set 1 _).set 2 _).set 3 _, w2, hc2, hcq⟩⟩
def mv (f x : Nat) : Value := .func (.func f) #[.pointer (some ⟨x, 0, none⟩)] #[]
theorem steps_any (t : TpV w l q p n h h' L L' k vF vE vF' vE') :
    Calls Tryz.prog 68 #[.pointer (some ⟨q, 0, none⟩)] w fun e w' => e = .returned (.slice (some ⟨w.heap.size, 0, none⟩) 4 4) ∧ w' = w.alloc (.cells #[mv 77 q, mv 78 p, mv 79 q, mv 80 q] 58) := by
  have hq0 := t.own.cell 0
  simp at hq0
  clear t
  unfold mv
  go_enter Tryz.func68, Tryz.ntmps68
  go_wp2
  go_ret
  exact ⟨rfl, rfl⟩
end
end Go.Proofs.YtdiemejdbakffaaGreat
