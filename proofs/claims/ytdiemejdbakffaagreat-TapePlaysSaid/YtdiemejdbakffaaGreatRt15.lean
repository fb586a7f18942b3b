/-
  A tape and the document's, side by side, and the contract of the statement's both. No claim of their own.
-/
import Derived.Test.YtdiemejdbakffaaGreatRt14
namespace Go.Proofs.YtdiemejdbakffaaGreat
open Go.RowKit Go.Deep Go.Shelf Go.Maps
set_option linter.unusedVariables false
set_option linter.unusedSimpArgs false

theorem Tz.fresh {w w1 : World} {N m : List Nat} {q p g b n : Nat} {S : TS} (t : Tz w w N q p g b n S) (hc : Chg m w w1) (hm : ∀ x ∈ m, x ∉ N ∧ x ≠ p) : Tz w1 w1 N q p g b n S := by
  obtain ⟨l, h⟩ := t
  have hs : ∀ x ∈ l ++ [g, b], x ∈ N := fun x hx => by
    rcases h.sub x hx with h1 | h1
    · exact h1
    · exfalso
      rcases List.mem_append.1 hx with hx | hx
      · have := h.td.lt x hx; omega
      · simp only [List.mem_cons, List.mem_nil_iff, or_false] at hx
        rcases hx with rfl | rfl
        · have := h.td.dsk.ltg; omega
        · have := h.td.dsk.ltb; omega
  exact ⟨l, h.td.chg hc (fun x hx => ⟨fun hl => (hm x hx).1 (hs x (List.mem_append.2 (.inl hl))), (hm x hx).2, fun e => (hm x hx).1 (by rw [e]; exact hs g (by simp)), fun e => (hm x hx).1 (by rw [e]; exact hs b (by simp))⟩), fun x hx => .inl (hs x hx), Chg.refl _ _⟩
theorem Tz.next {w w1 : World} {N : List Nat} {q p g b n : Nat} {S : TS} (t : Tz w w1 N q p g b n S) : ∃ N', Tz w1 w1 N' q p g b n S ∧ ∀ x ∈ N', (x ∈ N ∨ w.heap.size ≤ x) ∧ x < w1.heap.size := by
  obtain ⟨l, h⟩ := t
  refine ⟨l ++ [g, b], ⟨l, h.td, fun x hx => .inl hx, Chg.refl _ _⟩, fun x hx => ⟨h.sub x hx, ?_⟩⟩
  rcases List.mem_append.1 hx with hx | hx
  · exact h.td.lt x hx
  · simp only [List.mem_cons, List.mem_nil_iff, or_false] at hx
    rcases hx with rfl | rfl
    · exact h.td.dsk.ltg
    · exact h.td.dsk.ltb
/-- a tape and the document's, with their disks, seen from w0; the document's may be in another state -/
structure Pw (w0 w : World) (N : List Nat) (t p g b u q gn go gd n : Nat) (S S2 : TS) : Prop where
  tz : Tz w w N t p g b n S
  rt : Rt w N u q gn go gd n S2
  low : ∀ x ∈ N, w0.heap.size ≤ x ∧ x < w.heap.size
  lowu : ∀ x ∈ [u, gn, go, gd], w0.heap.size ≤ x ∧ x ≠ p
  chg : Chg [] w0 w
section
variable {w0 w w1 : World} {N : List Nat} {t p g b u q gn go gd n : Nat} {S S2 S' : TS}
theorem Rt.out (h : Rt w N u q gn go gd n S) : ∀ x ∈ [u, gn, go, gd], x ∉ N := by
  obtain ⟨_, _, _, _, _, _, tc, _⟩ := h
  obtain ⟨h1, h2, h3, h4, h5⟩ := tc.uN
  intro x hx
  simp only [List.mem_cons, List.mem_nil_iff, or_false] at hx
  rcases hx with rfl | rfl | rfl | rfl <;> assumption
/-- a call of the tape's -/
theorem Pw.tape (h : Pw w0 w N t p g b u q gn go gd n S S2) (k : Tz w w1 N t p g b n S') : ∃ N', Pw w0 w1 N' t p g b u q gn go gd n S' S2 := by
  obtain ⟨N', h1, h2⟩ := k.next
  refine ⟨N', h1, h.rt.call k.chg (fun x hx => (h2 x hx).1), fun x hx => ⟨?_, (h2 x hx).2⟩, h.lowu, h.chg.then k.chg (fun x hx => .inr (h.low x hx).1)⟩
  rcases (h2 x hx).1 with h3 | h3
  · exact (h.low x h3).1
  · exact Nat.le_trans h.chg.size h3
/-- a call of the document's -/
theorem Pw.ref (h : Pw w0 w N t p g b u q gn go gd n S S2) (k : Rt w1 N u q gn go gd n S') (hc : Chg [u, gn, go, gd] w w1) : Pw w0 w1 N t p g b u q gn go gd n S S' :=
  ⟨h.tz.fresh hc (fun x hx => ⟨h.rt.out x hx, (h.lowu x hx).2⟩), k, fun x hx => ⟨(h.low x hx).1, Nat.lt_of_lt_of_le (h.low x hx).2 hc.size⟩, h.lowu, h.chg.then hc (fun x hx => .inr (h.lowu x hx).1)⟩
theorem Pw.kept (h : Pw w0 w N t p g b u q gn go gd n S S2) (hc : Chg [] w w1) : Pw w0 w1 N t p g b u q gn go gd n S S2 :=
  ⟨h.tz.fresh hc (by simp), h.rt.kept hc, fun x hx => ⟨(h.low x hx).1, Nat.lt_of_lt_of_le (h.low x hx).2 hc.size⟩, h.lowu, h.chg.trans hc⟩
theorem Pw.lt (h : Pw w0 w N t p g b u q gn go gd n S S2) : ∀ x ∈ N, x < w.heap.size := fun x hx => (h.low x hx).2
/-- what both tells -/
def BothT (w0 w : World) (N : List Nat) (t p g b u q gn go gd n : Nat) (e : Ending) (w' : World) : Prop := e = .returned (.bool true) ∧ (∃ N' S', Hid (Pw w0 w' N' t p g b u q gn go gd n S' S')) ∧ Hid (Chg (N ++ [u, gn, go, gd]) w w')
theorem chg2' {w wB w5 w6 : World} {N M : List Nat} {u gn go gd : Nat} (h0 : Chg [] w wB) (h1 : Chg M wB w5) (h2 : Chg N w5 w6) (hM : ∀ x ∈ M, x ∈ [u, gn, go, gd]) : Chg (N ++ [u, gn, go, gd]) w w6 :=
  (h0.mono (l' := N ++ [u, gn, go, gd]) (by simp)).trans ((h1.mono (l' := N ++ [u, gn, go, gd]) (fun x hx => .inl (List.mem_append.2 (.inr (hM x hx))))).trans (h2.mono (fun x hx => .inl (List.mem_append.2 (.inl hx)))))
theorem chg2 {w wB w5 w6 : World} {N M : List Nat} {u gn go gd : Nat} (h0 : Chg [] w wB) (h1 : Chg N wB w5) (h2 : Chg M w5 w6) (hM : ∀ x ∈ M, x ∈ [u, gn, go, gd]) : Chg (N ++ [u, gn, go, gd]) w w6 :=
  (h0.mono (l' := N ++ [u, gn, go, gd]) (by simp)).trans ((h1.mono (l' := N ++ [u, gn, go, gd]) (fun x hx => .inl (List.mem_append.2 (.inl hx)))).trans (h2.mono (fun x hx => .inl (List.mem_append.2 (.inr (hM x hx))))))
set_option maxHeartbeats 4000000 in
set_option maxRecDepth 100000 in
theorem both_app (h : Pw w0 w N t p g b u q gn go gd n S S) (i : Int) (ab : Option Addr) (bs : Rec) (cb : Nat) (al : Option Addr) (ll cl : Nat) (ak : Option Addr) (lk ck : Nat) (hro : Ro w0 w0.heap.size ab (u8s bs)) (hbl : bs.length ≤ 400) :
    Calls Tryz.prog 10 #[actV 1 i ab bs.length cb al ll cl ak lk ck, .pointer (some ⟨t, 0, none⟩), .pointer (some ⟨u, 0, none⟩)] w (BothT w0 w N t p g b u q gn go gd n) := by
  obtain ⟨wB, HWB⟩ : ∃ W, Hid (w.alloc (.cells #[.int .i64 1, .int .i64 i, .slice ab bs.length cb, .slice al ll cl, .slice ak lk ck] 41) = W) := ⟨_, Lib.hid rfl⟩
  have hcB : Chg [] w wB := by rw [← HWB.out]; exact (Chg.refl [] w).alloc _
  have hoB : Own wB w.heap.size 41 [.int .i64 1, .int .i64 i, .slice ab bs.length cb, .slice al ll cl, .slice ak lk ck] := by rw [← HWB.out]; exact Own.new w 41 _
  have hB := h.kept (hcB.drew)
  have ti := hB.tz.ti
  have hsep : bs ≠ [] → ∀ x, ab = some x → x.block ∉ N := fun h0 x hx hn => by
    have h1 := ro_off hro (ne_u8s h0) x hx
    have h2 := (h.low _ hn).1
    omega
  have hA := append_Z hB.tz ab bs cb ((hro.chgs hB.chg (by simp)).mono hB.chg.size) hsep
  obtain ⟨E, HE⟩ : ∃ E, Hid (appE n S.k S.h S.h' S.L S.L' bs = E) := ⟨_, Lib.hid rfl⟩
  rw [HE.out] at hA
  have HR := Lib.hid (show ∀ W N', Pw w0 W N' t p g b u q gn go gd n (appS n S bs) S → Calls Tryz.prog 37 #[.pointer (some ⟨u, 0, none⟩), .slice ab bs.length cb] W fun e w' => e = .returned (.int .i64 (E : Int)) ∧ Pw w0 w' N' t p g b u q gn go gd n (appS n S bs) (appS n S bs) ∧ Chg [u] W w' from fun W N' hW => by
    have h1 := rappend_any hW.rt ti hW.lt ab bs cb ((hro.chgs hW.chg (by simp)).mono hW.chg.size) (by omega)
    rw [HE.out] at h1
    exact h1.mono fun e w' ⟨a1, a2, a3⟩ => ⟨a1, hW.ref a2.out (a3.mono (by simp)), a3⟩)
  have c0 := hoB.cell 0
  simp at c0
  have c2 : (fun W : World => W.cell? ⟨w.heap.size, 2, none⟩ = some (.slice ab bs.length cb) ∧ w.heap.size < W.heap.size) wB.drew := ⟨hoB.cell 2, hoB.lt⟩
  have hwN : w.heap.size ∉ N := fun hm => by have := (h.low _ hm).2; omega
  have hwu : w.heap.size ∉ [u] := fun hm => by
    obtain ⟨_, _, _, _, _, _, tc, _⟩ := h.rt
    have := tc.own.lt
    simp at hm
    omega
  have HA := Lib.hid hA
  have HPB := Lib.hid hB
  have b1 : ((E : Int) == (E : Int)) = true := by simp
  have HUU := Lib.hid (And.intro hwN hwu)
  have HCB := Lib.hid hcB.drew
  obtain ⟨lb, HLB⟩ : ∃ x, Hid (bs.length = x) := ⟨_, Lib.hid rfl⟩
  rw [HLB.out] at HA c2 ⊢
  simp only [HLB.out] at HR HWB
  clear h hcB hoB hB ti hsep hA hwN hwu hro
  go_enter Tryz.func10, Tryz.ntmps10
  go_upto_region 1 with fail
  simp only [HWB.out]
  go_upto_region 3 with fail
  refine wp_region_held_drew (S := (fun W : World => W.cell? ⟨w.heap.size, 2, none⟩ = some (.slice ab lb cb) ∧ w.heap.size < W.heap.size)) (by kernel_rfl) c2 (fun hHeld => ?_)
  refine wpAnyH_take (i := 0) (v := ?_) rfl (by kernel_rfl) (by kernel_rfl) (by kernel_rfl) (fun _ _ _ h => h) (Or.inl ⟨by kernel_rfl, ?_⟩) hHeld ?_
  rotate_left
  · (intro w hSw; first | (go_simp; done) | (go_simp; with_reducible rfl))
  (try simp only [Act.put, List.getElem_toArray, List.getElem_cons_succ, List.getElem_cons_zero, List.setIfInBounds_toArray, List.set_cons_zero, List.set_cons_succ])
  refine wpAnyH_take (i := 1) (v := ?_) rfl (by kernel_rfl) (by kernel_rfl) (by kernel_rfl) (fun _ _ _ h => h) (Or.inl ⟨by kernel_rfl, ?_⟩) hHeld ?_
  rotate_left
  · (intro w hSw; first | (go_simp; done) | (go_simp; with_reducible rfl))
  (try simp only [Act.put, List.getElem_toArray, List.getElem_cons_succ, List.getElem_cons_zero, List.setIfInBounds_toArray, List.set_cons_zero, List.set_cons_succ])
  refine wpAnyH_take (i := 2) (v := ?_) rfl (by kernel_rfl) (by kernel_rfl) (by kernel_rfl) (fun _ _ _ h => h) (Or.inl ⟨by kernel_rfl, ?_⟩) hHeld ?_
  rotate_left
  · (intro w hSw; first | (go_simp; done) | (go_simp; with_reducible rfl))
  (try simp only [Act.put, List.getElem_toArray, List.getElem_cons_succ, List.getElem_cons_zero, List.setIfInBounds_toArray, List.set_cons_zero, List.set_cons_succ])
  refine wpAnyH_take (i := 4) (v := ?_) rfl (by kernel_rfl) (by kernel_rfl) (by kernel_rfl) (fun _ _ _ h => h) (Or.inl ⟨by kernel_rfl, ?_⟩) hHeld ?_
  rotate_left
  · (intro w hSw; first | (go_simp; done) | (go_simp; with_reducible rfl))
  (try simp only [Act.put, List.getElem_toArray, List.getElem_cons_succ, List.getElem_cons_zero, List.setIfInBounds_toArray, List.set_cons_zero, List.set_cons_succ])
  refine wpAnyH_take (i := 5) (v := ?_) rfl (by kernel_rfl) (by kernel_rfl) (by kernel_rfl) (fun _ _ _ h => h) (Or.inl ⟨by kernel_rfl, ?_⟩) hHeld ?_
  rotate_left
  · (intro w hSw; first | (go_simp; done) | (go_simp; with_reducible rfl))
  (try simp only [Act.put, List.getElem_toArray, List.getElem_cons_succ, List.getElem_cons_zero, List.setIfInBounds_toArray, List.set_cons_zero, List.set_cons_succ])
  refine wpAnyH_take (i := 6) (v := ?_) rfl (by kernel_rfl) (by kernel_rfl) (by kernel_rfl) (fun _ _ _ h => h) (Or.inl ⟨by kernel_rfl, ?_⟩) hHeld ?_
  rotate_left
  · (intro w hSw; first | (go_simp; done) | (go_simp; with_reducible rfl))
  (try simp only [Act.put, List.getElem_toArray, List.getElem_cons_succ, List.getElem_cons_zero, List.setIfInBounds_toArray, List.set_cons_zero, List.set_cons_succ])
  refine wpAnyH_ready (rs := [3]) (by kernel_rfl) (by simp) (AllReadyH.cons rfl (fun K hK => ?_) AllReadyH.nil)
  have hH := hHeld
  (go_simp; go_at_call 21; refine HA.out.mono ?_; rintro e w5 ⟨rfl, HT5⟩; obtain ⟨N5, h5⟩ := HPB.out.tape HT5.out)
  refine hK.out _ _ (by exact ⟨HT5.out.chg.cell hH.1 HUU.out.1, Nat.lt_of_lt_of_le hH.2 HT5.out.chg.size⟩) (fun hHq1 => ?_)
  clear hK K hH 
  (try simp only [Act.put, List.getElem_toArray, List.getElem_cons_succ, List.getElem_cons_zero, List.setIfInBounds_toArray, List.set_cons_zero, List.set_cons_succ])
  refine wpAnyH_ready (rs := [7]) (by kernel_rfl) (by simp) (AllReadyH.cons rfl (fun K hK => ?_) AllReadyH.nil)
  have hH := hHq1
  (go_simp; go_at_call 37; refine (HR.out _ _ h5).mono ?_; rintro e w6 ⟨rfl, h6, hc6⟩)
  refine hK.out _ _ (by exact ⟨hc6.cell hH.1 HUU.out.2, Nat.lt_of_lt_of_le hH.2 hc6.size⟩) (fun hHq2 => ?_)
  clear hK K hH hHq1
  (try simp only [Act.put, List.getElem_toArray, List.getElem_cons_succ, List.getElem_cons_zero, List.setIfInBounds_toArray, List.set_cons_zero, List.set_cons_succ])
  refine wpAnyH_take (i := 8) (v := ?_) rfl (by kernel_rfl) (by kernel_rfl) (by kernel_rfl) (fun _ _ _ h => h) (Or.inl ⟨by kernel_rfl, ?_⟩) hHq2 ?_
  rotate_left
  · (intro w hSw; first | (go_simp; done) | (go_simp; with_reducible rfl))
  (try simp only [Act.put, List.getElem_toArray, List.getElem_cons_succ, List.getElem_cons_zero, List.setIfInBounds_toArray, List.set_cons_zero, List.set_cons_succ])
  refine wpAnyH_take (i := 9) (v := ?_) rfl (by kernel_rfl) (by kernel_rfl) (by kernel_rfl) (fun _ _ _ h => h) (Or.inl ⟨by kernel_rfl, ?_⟩) hHq2 ?_
  rotate_left
  · (intro w hSw; first | (go_simp; done) | (go_simp; with_reducible rfl))
  (try simp only [Act.put, List.getElem_toArray, List.getElem_cons_succ, List.getElem_cons_zero, List.setIfInBounds_toArray, List.set_cons_zero, List.set_cons_succ])
  refine wpAnyH_done (by kernel_rfl) ?_ _
  have hEnd := hHq2
  have H6 := Lib.hid h6
  have HCC := Lib.hid (chg2 (u := u) (gn := gn) (go := go) (gd := gd) HCB.out HT5.out.chg hc6 (by simp))
  clear hEnd h5 h6 hc6 HT5
  go_wp2_with fail
  go_ret
  exact ⟨rfl, ⟨_, _, H6⟩, HCC⟩
end
end Go.Proofs.YtdiemejdbakffaaGreat
