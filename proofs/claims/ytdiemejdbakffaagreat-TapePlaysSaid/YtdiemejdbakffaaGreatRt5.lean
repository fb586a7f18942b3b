/-
  The document's tape in memory, and the contracts of its Room and target. No claim of their own.
-/
import Derived.Test.YtdiemejdbakffaaGreatRt4
import Derived.Test.YtdiemejdbakffaaGreatRs6
namespace Go.Proofs.YtdiemejdbakffaaGreat
open Go.RowKit Go.Deep Go.Shelf Go.Maps
set_option linter.unusedVariables false
set_option linter.unusedSimpArgs false

/-- what a tape's numbers keep -/
structure TI (n : Nat) (S : TS) : Prop where
  three : 3 ≤ n
  top : n ≤ 1024
  half : S.h ≤ 1
  half' : S.h' ≤ 1
  step : S.k ≤ 3
  ok : okL S.L
  ok' : okL S.L'
  room : (frs S.L).length ≤ hsec n * 64
  room' : (frs S.L').length ≤ hsec n * 64
  pre : S.h = S.h' → ∃ W, S.L' = S.L ++ W
  busy : 0 < S.k → S.h ≠ S.h' ∨ S.L.length < S.L'.length
  lenF : ∀ i, (S.F i).length = 64
  lenN : ∀ i, (now S.F S.m i).length = 64
theorem TD.ti {w : World} {l : List Nat} {q p g b n : Nat} {S : TS} (t : TD w l q p g b n S) : TI n S := by
  obtain ⟨_, _, _, _, tv⟩ := t.tp
  exact ⟨t.three, t.dsk.top, tv.half, tv.half', tv.step, tv.ok, tv.ok', tv.room, tv.room', tv.pre, tv.busy, t.dsk.lenF, t.dsk.lenN⟩
theorem Tz.ti {w0 w : World} {N : List Nat} {q p g b n : Nat} {S : TS} (t : Tz w0 w N q p g b n S) : TI n S := t.elim fun l h => h.td.ti
theorem TI.lens {n : Nat} {S : TS} (t : TI n S) : (frs S.L).length ≤ 100000 ∧ (frs S.L').length ≤ 100000 ∧ S.L.length ≤ 100000 ∧ S.L'.length ≤ 100000 := by
  have h1 := t.room
  have h2 := t.room'
  have h3 := t.top
  have h4 := frs_ge t.ok
  have h5 := frs_ge t.ok'
  have h6 : hsec n * 64 ≤ 512 * 64 := Nat.mul_le_mul_right _ (by unfold hsec; omega)
  omega
/-- the waiting records of the document's tape -/
def waitL (S : TS) : List Rec := if S.h = S.h' then S.L'.drop S.L.length else S.L'
theorem waitL_eq {n : Nat} {S : TS} (t : TI n S) : S.L' = if S.h = S.h' then S.L ++ waitL S else waitL S := by
  unfold waitL
  by_cases h : S.h = S.h'
  · rw [if_pos h, if_pos h]
    obtain ⟨W, hW⟩ := t.pre h
    rw [hW, List.drop_left]
  · rw [if_neg h, if_neg h]
theorem waitL_same {n : Nat} {S : TS} (t : TI n S) (h : S.h = S.h') : S.L' = S.L ++ waitL S := by
  have := waitL_eq t
  rw [if_pos h] at this
  exact this
theorem waitL_new {S : TS} (h : S.h ≠ S.h') : waitL S = S.L' := by unfold waitL; rw [if_neg h]
/-- the document's tape: its struct in block u, its disk, its two lists; none of its blocks is in N, and what it writes are its struct's and its disk's blocks -/
structure RtC (w : World) (N : List Nat) (u q gn go gd n : Nat) (F : Nat → Sec) (m : Nat → Option Sec) (h : Nat) (fl : Bool) (k : Nat) (aL : Option Addr) (cL : Nat) (xs : List SB) (aW : Option Addr) (cW : Nat) (ys : List SB) : Prop where
  own : Own w u 81 [.pointer (some ⟨q, 0, none⟩), .int .i64 (h : Int), .slice aL xs.length cL, .slice aW ys.length cW, .bool fl, .int .i64 (k : Int)]
  dk : Rdk w q gn go gd n (now F m) F (fun i => (m i).isSome)
  lL : RS w (N ++ [u, gn, go, gd]) aL xs
  lW : RS w (N ++ [u, gn, go, gd]) aW ys
  uN : u ∉ N ∧ q ∉ N ∧ gn ∉ N ∧ go ∉ N ∧ gd ∉ N
  uD : u ≠ q ∧ u ≠ gn ∧ u ≠ go ∧ u ≠ gd
section
variable {w w' : World} {N N' : List Nat} {u q gn go gd n : Nat} {F : Nat → Sec} {m : Nat → Option Sec} {h k : Nat} {fl : Bool} {aL aW : Option Addr} {cL cW : Nat} {xs ys : List SB}
theorem RtC.call (t : RtC w N u q gn go gd n F m h fl k aL cL xs aW cW ys) (hc : Chg N w w') (hN : ∀ x ∈ N', x ∈ N ∨ w.heap.size ≤ x) : RtC w' N' u q gn go gd n F m h fl k aL cL xs aW cW ys := by
  have hM : ∀ x ∈ N' ++ [u, gn, go, gd], x ∈ N ++ [u, gn, go, gd] ∨ w.heap.size ≤ x := fun x hx => by
    rcases List.mem_append.1 hx with hx | hx
    · rcases hN x hx with h1 | h1
      · exact .inl (List.mem_append.2 (.inl h1))
      · exact .inr h1
    · exact .inl (List.mem_append.2 (.inr hx))
  have hlt : ∀ x, x ∉ N → x < w.heap.size → x ∉ N' := fun x h1 h2 h3 => by
    rcases hN x h3 with h4 | h4
    · exact h1 h4
    · omega
  obtain ⟨u1, u2, u3, u4, u5⟩ := t.uN
  exact ⟨t.own.chg hc u1, t.dk.keep hc u2 u3 u4 u5, t.lL.call (hc.mono (fun x hx => .inl (List.mem_append.2 (.inl hx)))) hM, t.lW.call (hc.mono (fun x hx => .inl (List.mem_append.2 (.inl hx)))) hM,
    ⟨hlt _ u1 t.own.lt, hlt _ u2 t.dk.ltq, hlt _ u3 t.dk.ltn, hlt _ u4 t.dk.lto, hlt _ u5 t.dk.ltd⟩, t.uD⟩
theorem RtC.kept (t : RtC w N u q gn go gd n F m h fl k aL cL xs aW cW ys) (hc : Chg [] w w') : RtC w' N u q gn go gd n F m h fl k aL cL xs aW cW ys :=
  t.call (hc.mono (by simp)) (fun x hx => .inl hx)
theorem RtC.cells (t : RtC w N u q gn go gd n F m h fl k aL cL xs aW cW ys) : w.cell? ⟨u, 0, none⟩ = some (.pointer (some ⟨q, 0, none⟩)) ∧ w.cell? ⟨u, 1, none⟩ = some (.int .i64 (h : Int)) ∧ w.cell? ⟨u, 2, none⟩ = some (.slice aL xs.length cL) ∧ w.cell? ⟨u, 3, none⟩ = some (.slice aW ys.length cW) ∧ w.cell? ⟨u, 4, none⟩ = some (.bool fl) ∧ w.cell? ⟨u, 5, none⟩ = some (.int .i64 (k : Int)) := by
  have c0 := t.own.cell 0
  have c1 := t.own.cell 1
  have c2 := t.own.cell 2
  have c3 := t.own.cell 3
  have c4 := t.own.cell 4
  have c5 := t.own.cell 5
  simp at c0 c1 c2 c3 c4 c5
  exact ⟨c0, c1, c2, c3, c4, c5⟩
theorem RtC.frz (t : RtC w N u q gn go gd n F m h fl k aL cL xs aW cW ys) : w.frozen? ⟨u, 1, none⟩ = false ∧ w.frozen? ⟨u, 2, none⟩ = false ∧ w.frozen? ⟨u, 3, none⟩ = false ∧ w.frozen? ⟨u, 4, none⟩ = false ∧ w.frozen? ⟨u, 5, none⟩ = false :=
  ⟨t.own.frozen 1, t.own.frozen 2, t.own.frozen 3, t.own.frozen 4, t.own.frozen 5⟩
/-- its struct's cell is written -/
theorem RtC.setu (t : RtC w N u q gn go gd n F m h fl k aL cL xs aW cW ys) (v : Value) (i : Nat) {h' k' : Nat} {fl' : Bool} {aL' aW' : Option Addr} {cL' cW' : Nat} {xs' ys' : List SB}
    (he : [Value.pointer (some ⟨q, 0, none⟩), .int .i64 (h : Int), .slice aL xs.length cL, .slice aW ys.length cW, .bool fl, .int .i64 (k : Int)].set i v = [.pointer (some ⟨q, 0, none⟩), .int .i64 (h' : Int), .slice aL' xs'.length cL', .slice aW' ys'.length cW', .bool fl', .int .i64 (k' : Int)])
    (hL : RS w (N ++ [u, gn, go, gd]) aL' xs') (hW : RS w (N ++ [u, gn, go, gd]) aW' ys') : RtC (w.setCell ⟨u, i, none⟩ v) N u q gn go gd n F m h' fl' k' aL' cL' xs' aW' cW' ys' := by
  have hc : Chg [u] w (w.setCell ⟨u, i, none⟩ v) := (Chg.refl [u] w).setCell (by simp) _
  obtain ⟨d1, d2, d3, d4⟩ := t.uD
  refine ⟨by have := t.own.set i v; rw [he] at this; exact this, t.dk.keep hc (by simpa using d1.symm) (by simpa using d2.symm) (by simpa using d3.symm) (by simpa using d4.symm), ?_, ?_, t.uN, t.uD⟩
  · exact hL.call (hc.mono (by simp)) (fun x hx => .inl hx)
  · exact hW.call (hc.mono (by simp)) (fun x hx => .inl hx)
end
/-- the document's tape in the state S -/
def Rt (w : World) (N : List Nat) (u q gn go gd n : Nat) (S : TS) : Prop := ∃ aL cL xs aW cW ys, RtC w N u q gn go gd n S.F S.m S.h (decide (S.h ≠ S.h')) S.k aL cL xs aW cW ys ∧ recs xs = S.L ∧ recs ys = waitL S
section
variable {w : World} {N : List Nat} {u q gn go gd n : Nat} {S : TS}
theorem Rt.call {w' : World} {N' : List Nat} (t : Rt w N u q gn go gd n S) (hc : Chg N w w') (hN : ∀ x ∈ N', x ∈ N ∨ w.heap.size ≤ x) : Rt w' N' u q gn go gd n S := by
  obtain ⟨a, b, c, d, e, f, h1, h2⟩ := t
  exact ⟨a, b, c, d, e, f, h1.call hc hN, h2⟩
theorem Rt.kept {w' : World} (t : Rt w N u q gn go gd n S) (hc : Chg [] w w') : Rt w' N u q gn go gd n S := t.call (hc.mono (by simp)) (fun x hx => .inl hx)
set_option maxHeartbeats 4000000 in
set_option maxRecDepth 100000 in
theorem rroom_any (t : Rt w N u q gn go gd n S) (ti : TI n S) :
    Calls Tryz.prog 49 #[.pointer (some ⟨u, 0, none⟩)] w fun e w' => e = .returned (.int .i64 ((roomN n S.h S.h' S.L S.L' : Nat) : Int)) ∧ Chg [] w w' := by
  obtain ⟨aL, cL, xs, aW, cW, ys, t, eL, eW⟩ := t
  obtain ⟨c0, c1, c2, c3, c4, c5⟩ := t.cells
  have hlen := ti.lens
  have hr := ti.room
  have hr' := ti.room'
  have hs : hsec n * 64 ≤ 100000 := by have := ti.top; unfold hsec; omega
  have HSE := Lib.hid (rsectors_any w.drew (u := u) (show w.drew.cell? ⟨u, 0, none⟩ = _ from c0) (t.dk.kept (Chg.refl [] w).drew))
  have hFL := frames_any w.drew aL xs cL (t.lL.kept (Chg.refl [] w).drew).rom (by rw [eL]; exact ti.ok) (by rw [← recs_len, eL]; omega)
  rw [eL] at hFL
  have hokW : okL (recs ys) := by
    rw [eW]
    unfold waitL
    split
    · exact fun r hr => ti.ok' r (List.mem_of_mem_drop hr)
    · exact ti.ok'
  have hlW : (recs ys).length ≤ 100000 := by
    rw [eW]
    unfold waitL
    split
    · rw [List.length_drop]; omega
    · omega
  have hFW := fun w1 (hc : Chg [] w w1) => frames_any w1 aW ys cW (t.lW.kept hc).rom hokW (by rw [← recs_len]; omega)
  obtain ⟨s, HS⟩ : ∃ s, Hid (hsec n = s) := ⟨_, Lib.hid rfl⟩
  obtain ⟨NF, HNF⟩ : ∃ N, Hid ((frs S.L).length = N) := ⟨_, Lib.hid rfl⟩
  obtain ⟨NW, HNW⟩ : ∃ N, Hid ((frs (recs ys)).length = N) := ⟨_, Lib.hid rfl⟩
  have HW := Lib.hid (show roomN n S.h S.h' S.L S.L' = s * 64 - if S.h = S.h' then NF + NW else NF from by
    unfold roomN
    rw [HS.out, HNF.out]
    by_cases h : S.h = S.h'
    · rw [if_pos h, if_pos h, waitL_same ti h, frs_append, List.length_append, HNF.out, ← eW, HNW.out]
    · rw [if_neg h, if_neg h])
  have hle : S.h = S.h' → NF + NW ≤ s * 64 := fun h => by
    rw [waitL_same ti h, frs_append, List.length_append, HNF.out, ← eW, HNW.out, HS.out] at hr'
    exact hr'
  rw [HNF.out] at hr hFL
  rw [HS.out] at hr hs HSE
  simp only [HNW.out] at hFW
  obtain ⟨s64, hs64⟩ : ∃ x, x = s * 64 := ⟨_, rfl⟩
  have m0 : IntKind.i64.wrap (64 * (s : Int)) = (s64 : Int) := by rw [IntKind.wrap_i64]; omega
  obtain ⟨R1, hR1⟩ : ∃ x, x = s64 - NF := ⟨_, rfl⟩
  have m1 : IntKind.i64.wrap ((s64 : Int) - (NF : Int)) = (R1 : Int) := by rw [IntKind.wrap_i64]; omega
  have HFL := Lib.hid hFL
  have HFW := Lib.hid hFW
  rw [HW.out]
  have hst : (fun W : World => W.cell? ⟨u, 2, none⟩ = some (.slice aL xs.length cL)) w.drew := c2
  have HCL := Lib.hid (And.intro c3 c4)
  clear t eL eW hlen hr' hFL hFW hokW hlW HW c0 c1 c3 c4 c5
  by_cases hh : S.h = S.h'
  · have hd : decide (S.h ≠ S.h') = false := decide_eq_false (fun x => x hh)
    rw [hd] at HCL
    obtain ⟨R2, hR2⟩ : ∃ x, x = R1 - NW := ⟨_, rfl⟩
    have hl2 := hle hh
    have m2 : IntKind.i64.wrap ((R1 : Int) - (NW : Int)) = (R2 : Int) := by rw [IntKind.wrap_i64]; omega
    have HR := Lib.hid (show s * 64 - (NF + NW) = R2 by omega)
    rw [if_pos hh, HR.out]
    clear hd hh hle hl2 hR2 hR1 hs64 HR
    go_enter Tryz.func49, Tryz.ntmps49
    go_wp2_with fail
    refine wp_region_held_drew (S := (fun W : World => W.cell? ⟨u, 2, none⟩ = some (.slice aL xs.length cL))) (by kernel_rfl) hst (fun hHeld => ?_)
    refine wpAnyH_take (i := 0) (v := ?_) rfl (by kernel_rfl) (by kernel_rfl) (by kernel_rfl) (fun _ _ _ h => h) (Or.inl ⟨by kernel_rfl, ?_⟩) hHeld ?_
    rotate_left
    · (intro w hSw; first | (go_simp; done) | (go_simp; with_reducible rfl))
    (try simp only [Act.put, List.getElem_toArray, List.getElem_cons_succ, List.getElem_cons_zero, List.setIfInBounds_toArray, List.set_cons_zero, List.set_cons_succ])
    refine wpAnyH_take (i := 3) (v := ?_) rfl (by kernel_rfl) (by kernel_rfl) (by kernel_rfl) (fun _ _ _ h => h) (Or.inl ⟨by kernel_rfl, ?_⟩) hHeld ?_
    rotate_left
    · (intro w hSw; first | (go_simp; done) | (go_simp; with_reducible rfl))
    (try simp only [Act.put, List.getElem_toArray, List.getElem_cons_succ, List.getElem_cons_zero, List.setIfInBounds_toArray, List.set_cons_zero, List.set_cons_succ])
    refine wpAnyH_take (i := 4) (v := ?_) rfl (by kernel_rfl) (by kernel_rfl) (by kernel_rfl) (fun _ _ _ h => h) (Or.inl ⟨by kernel_rfl, ?_⟩) hHeld ?_
    rotate_left
    · (intro w hSw; first | (go_simp; done) | (go_simp; with_reducible rfl))
    (try simp only [Act.put, List.getElem_toArray, List.getElem_cons_succ, List.getElem_cons_zero, List.setIfInBounds_toArray, List.set_cons_zero, List.set_cons_succ])
    refine wpAnyH_take (i := 5) (v := ?_) rfl (by kernel_rfl) (by kernel_rfl) (by kernel_rfl) (fun _ _ _ h => h) (Or.inl ⟨by kernel_rfl, ?_⟩) hHeld ?_
    rotate_left
    · (intro w hSw; first | (go_simp; done) | (go_simp; with_reducible rfl))
    (try simp only [Act.put, List.getElem_toArray, List.getElem_cons_succ, List.getElem_cons_zero, List.setIfInBounds_toArray, List.set_cons_zero, List.set_cons_succ])
    refine wpAnyH_take (i := 6) (v := ?_) rfl (by kernel_rfl) (by kernel_rfl) (by kernel_rfl) (fun _ _ _ h => h) (Or.inl ⟨by kernel_rfl, ?_⟩) hHeld ?_
    rotate_left
    · (intro w hSw; first | (go_simp; done) | (go_simp; with_reducible rfl))
    (try simp only [Act.put, List.getElem_toArray, List.getElem_cons_succ, List.getElem_cons_zero, List.setIfInBounds_toArray, List.set_cons_zero, List.set_cons_succ])
    refine wpAnyH_ready (rs := [1]) (by kernel_rfl) (by simp) (AllReadyH.cons rfl (fun K hK => ?_) AllReadyH.nil)
    have hH := hHeld
    (go_simp; go_at_call 34; refine HSE.out.mono ?_; rintro e w' ⟨rfl, rfl⟩)
    refine hK.out _ _ (by exact hH) (fun hHq1 => ?_)
    clear hK K hH 
    (try simp only [Act.put, List.getElem_toArray, List.getElem_cons_succ, List.getElem_cons_zero, List.setIfInBounds_toArray, List.set_cons_zero, List.set_cons_succ])
    refine wpAnyH_take (i := 2) (v := ?_) rfl (by kernel_rfl) (by kernel_rfl) (by kernel_rfl) (fun _ _ _ h => h) (Or.inl ⟨by kernel_rfl, ?_⟩) hHq1 ?_
    rotate_left
    · (intro w hSw; first | (go_simp; done) | (go_simp; with_reducible rfl))
    (try simp only [Act.put, List.getElem_toArray, List.getElem_cons_succ, List.getElem_cons_zero, List.setIfInBounds_toArray, List.set_cons_zero, List.set_cons_succ])
    refine wpAnyH_ready (rs := [7]) (by kernel_rfl) (by simp) (AllReadyH.cons rfl (fun K hK => ?_) AllReadyH.nil)
    have hH := hHq1
    (go_simp; go_at_call 67; refine HFL.out.mono ?_; rintro e w9 ⟨a9, c9, rfl, h9⟩)
    refine hK.out _ _ (by exact h9.chg.cell hH (by simp)) (fun hHq2 => ?_)
    clear hK K hH hHq1
    (try simp only [Act.put, List.getElem_toArray, List.getElem_cons_succ, List.getElem_cons_zero, List.setIfInBounds_toArray, List.set_cons_zero, List.set_cons_succ])
    refine wpAnyH_take (i := 8) (v := ?_) rfl (by kernel_rfl) (by kernel_rfl) (by kernel_rfl) (fun _ _ _ h => h) (Or.inl ⟨by kernel_rfl, ?_⟩) hHq2 ?_
    rotate_left
    · (intro w hSw; first | (go_simp; done) | (go_simp; with_reducible rfl))
    (try simp only [Act.put, List.getElem_toArray, List.getElem_cons_succ, List.getElem_cons_zero, List.setIfInBounds_toArray, List.set_cons_zero, List.set_cons_succ])
    refine wpAnyH_take (i := 9) (v := ?_) rfl (by kernel_rfl) (by kernel_rfl) (by kernel_rfl) (fun _ _ _ h => h) (Or.inl ⟨by kernel_rfl, ?_⟩) hHq2 ?_
    rotate_left
    · (intro w hSw; first | (go_simp; done) | (go_simp; with_reducible rfl))
    (try simp only [Act.put, List.getElem_toArray, List.getElem_cons_succ, List.getElem_cons_zero, List.setIfInBounds_toArray, List.set_cons_zero, List.set_cons_succ])
    refine wpAnyH_take (i := 10) (v := ?_) rfl (by kernel_rfl) (by kernel_rfl) (by kernel_rfl) (fun _ _ _ h => h) (Or.inl ⟨by kernel_rfl, ?_⟩) hHq2 ?_
    rotate_left
    · (intro w hSw; first | (go_simp; done) | (go_simp; with_reducible rfl))
    (try simp only [Act.put, List.getElem_toArray, List.getElem_cons_succ, List.getElem_cons_zero, List.setIfInBounds_toArray, List.set_cons_zero, List.set_cons_succ])
    refine wpAnyH_done (by kernel_rfl) ?_ _
    have hEnd := hHq2
    have HC9 := Lib.hid (show Chg [] w w9 from (Chg.refl [] w).drew.trans h9.chg)
    have c3 := HC9.out.cell HCL.out.1 (by simp)
    have c4 := HC9.out.cell HCL.out.2 (by simp)
    have HF2 := Lib.hid (HFW.out w9 HC9.out)
    clear hEnd hst c2 h9 HFW HFL HSE
    go_wp2_with fail
    refine HF2.out.mono ?_
    rintro e w10 ⟨a10, c10, rfl, h10⟩
    have HC10 := Lib.hid (HC9.out.trans h10.chg)
    clear h10 c3 c4
    go_wp2_with fail
    go_ret
    exact ⟨rfl, HC10.out⟩
  · have hd : decide (S.h ≠ S.h') = true := decide_eq_true hh
    rw [hd] at HCL
    have HR := Lib.hid (show s * 64 - NF = R1 by omega)
    rw [if_neg hh, HR.out]
    clear hd hh hle hR1 hs64 HR
    go_enter Tryz.func49, Tryz.ntmps49
    go_wp2_with fail
    refine wp_region_held_drew (S := (fun W : World => W.cell? ⟨u, 2, none⟩ = some (.slice aL xs.length cL))) (by kernel_rfl) hst (fun hHeld => ?_)
    refine wpAnyH_take (i := 0) (v := ?_) rfl (by kernel_rfl) (by kernel_rfl) (by kernel_rfl) (fun _ _ _ h => h) (Or.inl ⟨by kernel_rfl, ?_⟩) hHeld ?_
    rotate_left
    · (intro w hSw; first | (go_simp; done) | (go_simp; with_reducible rfl))
    (try simp only [Act.put, List.getElem_toArray, List.getElem_cons_succ, List.getElem_cons_zero, List.setIfInBounds_toArray, List.set_cons_zero, List.set_cons_succ])
    refine wpAnyH_take (i := 3) (v := ?_) rfl (by kernel_rfl) (by kernel_rfl) (by kernel_rfl) (fun _ _ _ h => h) (Or.inl ⟨by kernel_rfl, ?_⟩) hHeld ?_
    rotate_left
    · (intro w hSw; first | (go_simp; done) | (go_simp; with_reducible rfl))
    (try simp only [Act.put, List.getElem_toArray, List.getElem_cons_succ, List.getElem_cons_zero, List.setIfInBounds_toArray, List.set_cons_zero, List.set_cons_succ])
    refine wpAnyH_take (i := 4) (v := ?_) rfl (by kernel_rfl) (by kernel_rfl) (by kernel_rfl) (fun _ _ _ h => h) (Or.inl ⟨by kernel_rfl, ?_⟩) hHeld ?_
    rotate_left
    · (intro w hSw; first | (go_simp; done) | (go_simp; with_reducible rfl))
    (try simp only [Act.put, List.getElem_toArray, List.getElem_cons_succ, List.getElem_cons_zero, List.setIfInBounds_toArray, List.set_cons_zero, List.set_cons_succ])
    refine wpAnyH_take (i := 5) (v := ?_) rfl (by kernel_rfl) (by kernel_rfl) (by kernel_rfl) (fun _ _ _ h => h) (Or.inl ⟨by kernel_rfl, ?_⟩) hHeld ?_
    rotate_left
    · (intro w hSw; first | (go_simp; done) | (go_simp; with_reducible rfl))
    (try simp only [Act.put, List.getElem_toArray, List.getElem_cons_succ, List.getElem_cons_zero, List.setIfInBounds_toArray, List.set_cons_zero, List.set_cons_succ])
    refine wpAnyH_take (i := 6) (v := ?_) rfl (by kernel_rfl) (by kernel_rfl) (by kernel_rfl) (fun _ _ _ h => h) (Or.inl ⟨by kernel_rfl, ?_⟩) hHeld ?_
    rotate_left
    · (intro w hSw; first | (go_simp; done) | (go_simp; with_reducible rfl))
    (try simp only [Act.put, List.getElem_toArray, List.getElem_cons_succ, List.getElem_cons_zero, List.setIfInBounds_toArray, List.set_cons_zero, List.set_cons_succ])
    refine wpAnyH_ready (rs := [1]) (by kernel_rfl) (by simp) (AllReadyH.cons rfl (fun K hK => ?_) AllReadyH.nil)
    have hH := hHeld
    (go_simp; go_at_call 34; refine HSE.out.mono ?_; rintro e w' ⟨rfl, rfl⟩)
    refine hK.out _ _ (by exact hH) (fun hHq1 => ?_)
    clear hK K hH 
    (try simp only [Act.put, List.getElem_toArray, List.getElem_cons_succ, List.getElem_cons_zero, List.setIfInBounds_toArray, List.set_cons_zero, List.set_cons_succ])
    refine wpAnyH_take (i := 2) (v := ?_) rfl (by kernel_rfl) (by kernel_rfl) (by kernel_rfl) (fun _ _ _ h => h) (Or.inl ⟨by kernel_rfl, ?_⟩) hHq1 ?_
    rotate_left
    · (intro w hSw; first | (go_simp; done) | (go_simp; with_reducible rfl))
    (try simp only [Act.put, List.getElem_toArray, List.getElem_cons_succ, List.getElem_cons_zero, List.setIfInBounds_toArray, List.set_cons_zero, List.set_cons_succ])
    refine wpAnyH_ready (rs := [7]) (by kernel_rfl) (by simp) (AllReadyH.cons rfl (fun K hK => ?_) AllReadyH.nil)
    have hH := hHq1
    (go_simp; go_at_call 67; refine HFL.out.mono ?_; rintro e w9 ⟨a9, c9, rfl, h9⟩)
    refine hK.out _ _ (by exact h9.chg.cell hH (by simp)) (fun hHq2 => ?_)
    clear hK K hH hHq1
    (try simp only [Act.put, List.getElem_toArray, List.getElem_cons_succ, List.getElem_cons_zero, List.setIfInBounds_toArray, List.set_cons_zero, List.set_cons_succ])
    refine wpAnyH_take (i := 8) (v := ?_) rfl (by kernel_rfl) (by kernel_rfl) (by kernel_rfl) (fun _ _ _ h => h) (Or.inl ⟨by kernel_rfl, ?_⟩) hHq2 ?_
    rotate_left
    · (intro w hSw; first | (go_simp; done) | (go_simp; with_reducible rfl))
    (try simp only [Act.put, List.getElem_toArray, List.getElem_cons_succ, List.getElem_cons_zero, List.setIfInBounds_toArray, List.set_cons_zero, List.set_cons_succ])
    refine wpAnyH_take (i := 9) (v := ?_) rfl (by kernel_rfl) (by kernel_rfl) (by kernel_rfl) (fun _ _ _ h => h) (Or.inl ⟨by kernel_rfl, ?_⟩) hHq2 ?_
    rotate_left
    · (intro w hSw; first | (go_simp; done) | (go_simp; with_reducible rfl))
    (try simp only [Act.put, List.getElem_toArray, List.getElem_cons_succ, List.getElem_cons_zero, List.setIfInBounds_toArray, List.set_cons_zero, List.set_cons_succ])
    refine wpAnyH_take (i := 10) (v := ?_) rfl (by kernel_rfl) (by kernel_rfl) (by kernel_rfl) (fun _ _ _ h => h) (Or.inl ⟨by kernel_rfl, ?_⟩) hHq2 ?_
    rotate_left
    · (intro w hSw; first | (go_simp; done) | (go_simp; with_reducible rfl))
    (try simp only [Act.put, List.getElem_toArray, List.getElem_cons_succ, List.getElem_cons_zero, List.setIfInBounds_toArray, List.set_cons_zero, List.set_cons_succ])
    refine wpAnyH_done (by kernel_rfl) ?_ _
    have hEnd := hHq2
    have HC9 := Lib.hid (show Chg [] w w9 from (Chg.refl [] w).drew.trans h9.chg)
    have c4 := HC9.out.cell HCL.out.2 (by simp)
    clear hEnd hst c2 h9 HFW HFL HSE
    go_wp2_with fail
    go_ret
    exact ⟨rfl, HC9.out⟩
end
end Go.Proofs.YtdiemejdbakffaaGreat
