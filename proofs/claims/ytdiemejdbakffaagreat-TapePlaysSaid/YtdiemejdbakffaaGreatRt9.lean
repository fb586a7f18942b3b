/-
  Contract of the document's tape: Step, the first one. No claim of its own.
-/
import Derived.Test.YtdiemejdbakffaaGreatRt8
namespace Go.Proofs.YtdiemejdbakffaaGreat
open Go.RowKit Go.Deep Go.Shelf Go.Maps
set_option linter.unusedVariables false
set_option linter.unusedSimpArgs false

theorem now_upd (F : Nat → Sec) (m : Nat → Option Sec) (j : Nat) (S : Sec) : updF (now F m) j S = now F (upd m j S) := by
  funext x
  unfold updF now upd
  split <;> rfl
theorem some_upd (m : Nat → Option Sec) (j : Nat) (S : Sec) : updB (fun i => (m i).isSome) j true = fun i => (upd m j S i).isSome := by
  funext x
  unfold updB upd
  split <;> rfl
/-- a sector of the document's disk is written -/
theorem rwr (w : World) {q gn go gd n : Nat} {F : Nat → Sec} {m : Nat → Option Sec} (hd : Rdk w q gn go gd n (now F m) F (fun i => (m i).isSome)) (i : Nat) (hi : i < n) (S : Sec) (hS : S.length = 64) :
    Calls Tryz.prog 15 #[.pointer (some ⟨q, 0, none⟩), .int .i64 i, sv S] w fun e w' => e = .returned (.int .i64 0) ∧ Hid (Rdk w' q gn go gd n (now F (upd m i S)) F (fun j => (upd m i S j).isSome)) ∧ Chg [gn, gd] w w' :=
  (rwrite_ok w hd i hi S hS).mono fun e w' ⟨he, hr, hc⟩ => ⟨he, Lib.hid (by rw [now_upd, some_upd m i S] at hr; exact hr), hc⟩
theorem fill_part (bs : List UInt8) (k : Nat) (h : k = 64 ∨ bs.length ≤ k) : fillS (bs.take k) = fillS bs := fill_end bs k (by omega)
/-- the document's tape with what is written of it turned -/
theorem RtC.remake {w w' : World} {N : List Nat} {u q gn go gd n : Nat} {F F' : Nat → Sec} {m m' : Nat → Option Sec} {h k h' k' : Nat} {fl fl' : Bool} {aL aW : Option Addr} {cL cW : Nat} {xs ys : List SB} (t : RtC w N u q gn go gd n F m h fl k aL cL xs aW cW ys) (hc : Chg [u, gn, go, gd] w w')
    (ho : Own w' u 81 [.pointer (some ⟨q, 0, none⟩), .int .i64 (h' : Int), .slice aL xs.length cL, .slice aW ys.length cW, .bool fl', .int .i64 (k' : Int)]) (hd : Rdk w' q gn go gd n (now F' m') F' (fun i => (m' i).isSome)) : RtC w' N u q gn go gd n F' m' h' fl' k' aL cL xs aW cW ys :=
  ⟨ho, hd, t.lL.call (hc.mono (fun x hx => .inl (List.mem_append.2 (.inr hx)))) (fun x hx => .inl hx), t.lW.call (hc.mono (fun x hx => .inl (List.mem_append.2 (.inr hx)))) (fun x hx => .inl hx), t.uN, t.uD⟩
theorem RtC.ltU {w : World} {N : List Nat} {u q gn go gd n : Nat} {F : Nat → Sec} {m : Nat → Option Sec} {h k : Nat} {fl : Bool} {aL aW : Option Addr} {cL cW : Nat} {xs ys : List SB} (t : RtC w N u q gn go gd n F m h fl k aL cL xs aW cW ys) : ∀ x ∈ [u, gn, go, gd], x < w.heap.size := fun x hx => by
  simp only [List.mem_cons, List.mem_nil_iff, or_false] at hx
  rcases hx with rfl | rfl | rfl | rfl
  · exact t.own.lt
  · exact t.dk.ltn
  · exact t.dk.lto
  · exact t.dk.ltd
section
variable {w : World} {N : List Nat} {u q gn go gd n : Nat} {S : TS}
theorem wait_busy {n : Nat} {S : TS} (ti : TI n S) (hi : ¬ S.idle) (hh : S.h = S.h') : 0 < (waitL S).length := by
  have h1 := congrArg List.length (waitL_same ti hh)
  rw [List.length_append] at h1
  by_cases h0 : 0 < (waitL S).length
  · exact h0
  · exact absurd ⟨hh, by omega⟩ hi
set_option maxHeartbeats 8000000 in
set_option maxRecDepth 100000 in
theorem rstep_0 (t : Rt w N u q gn go gd n S) (ti : TI n S) (hi : ¬ S.idle) (hk : S.k = 0) :
    Calls Tryz.prog 41 #[.pointer (some ⟨u, 0, none⟩)] w fun e w' => e = .returned (.bool false) ∧ Hid (Rt w' N u q gn go gd n (stepS n S)) ∧ Chg [u, gn, go, gd] w w' := by
  have HTG := Lib.hid (rtarget_any t ti)
  obtain ⟨aL, cL, xs, aW, cW, ys, tc, eL, eW⟩ := t
  obtain ⟨c0, c1, c2, c3, c4, c5⟩ := tc.cells
  have hbusy : S.h = S.h' → 0 < ys.length := fun hh => by rw [← recs_len, eW]; exact wait_busy ti hi hh
  rw [hk] at tc
  have HTC := Lib.hid tc
  have HTI := Lib.hid ti
  have HEE := Lib.hid (And.intro eL eW)
  have HST := Lib.hid (show stepS n S = { S with m := wfM n S.h S.h' S.L S.L' S.m, k := 1 } from by unfold stepS; rw [if_neg hi, if_pos hk])
  rw [hk] at c5
  obtain ⟨s, HS⟩ : ∃ s, Hid (hsec n = s) := ⟨_, Lib.hid rfl⟩
  obtain ⟨B, HB⟩ : ∃ B, Hid (frs S.L' = B) := ⟨_, Lib.hid rfl⟩
  obtain ⟨fr, HFR⟩ : ∃ x, Hid (fromS S = x) := ⟨_, Lib.hid rfl⟩
  obtain ⟨nB, HNB⟩ : ∃ x, Hid (B.length = x) := ⟨_, Lib.hid rfl⟩
  obtain ⟨f, hf⟩ : ∃ f, f = 1 + S.h' * s := ⟨_, rfl⟩
  have HFF := Lib.hid hf
  have hroom : nB ≤ s * 64 := by rw [← HNB.out, ← HB.out, ← HS.out]; exact ti.room'
  have hs : s ≤ 512 := by rw [← HS.out]; have := ti.top; unfold hsec; omega
  have hfs : f + s ≤ n := by
    have h1 : S.h' * s ≤ 1 * s := Nat.mul_le_mul_right _ ti.half'
    have h2 := HS.out
    have h3 := ti.three
    unfold hsec at h2
    omega
  have hfr : fr ≤ 100000 := by
    rw [← HFR.out]
    unfold fromS
    have := ti.lens
    split
    · omega
    · omega
  obtain ⟨q0, hq0⟩ : ∃ x, x = fr / 64 := ⟨_, rfl⟩
  obtain ⟨at0, hat0⟩ : ∃ x, x = q0 * 64 := ⟨_, rfl⟩
  have m1 : IntKind.i64.wrap ((q0 : Int) * 64) = (at0 : Int) := by rw [IntKind.wrap_i64]; omega
  have m0 : (fr : Int) / 64 = (q0 : Int) := by omega
  have HQ := Lib.hid (And.intro hq0 hat0)
  have hfb : S.h' * s ≤ 1 * s := Nat.mul_le_mul_right _ ti.half'
  obtain ⟨f0, hf0⟩ : ∃ x, S.h' * s = x := ⟨_, rfl⟩
  rw [hf0] at hfb hf
  have n0 : IntKind.i64.wrap ((S.h' : Int) * (s : Int)) = (f0 : Int) := by rw [← Int.natCast_mul, hf0, IntKind.wrap_i64]; omega
  have n1 : IntKind.i64.wrap (1 + (f0 : Int)) = (f : Int) := by rw [IntKind.wrap_i64]; omega
  rw [HB.out, HFR.out] at HTG
  have HF := Lib.hid hf
  have hu := tc.own.lt
  clear tc eL eW ti hi hk hq0 hat0 hf0 hf hfb
  go_enter Tryz.func41, Tryz.ntmps41
  go_upto_region 1 with fail
  go_cut [20] from 8 to 20 (fun v wx => v = .bool false ∧ w = wx)
  case first =>
    by_cases hh : S.h = S.h'
    · have hd : decide (S.h ≠ S.h') = false := decide_eq_false (fun x => x hh)
      rw [hd] at c4
      have hl := hbusy hh
      have hl0 : ((ys.length : Int) == 0) = false := beq_eq_false_iff_ne.2 (by omega)
      clear hd hl hbusy hh
      go_wp2_with fail
      go_meet
      case rel => exact ⟨rfl, rfl⟩
    · have hd : decide (S.h ≠ S.h') = true := decide_eq_true hh
      rw [hd] at c4
      clear hd hbusy hh
      go_wp2_with fail
      go_meet
      case rel => exact ⟨rfl, rfl⟩
  case rest =>
    obtain ⟨rfl, rfl⟩ := hcut
    clear hbusy
    go_wp2_with fail
    refine HTG.out.mono ?_
    rintro e w1 ⟨vB, rfl, h1⟩
    obtain ⟨aB, cB, rfl⟩ := h1.lst.sl8
    have hx1 := HTC.out.kept h1.chg
    have k5 := hx1.own.cell 5
    have f5 := hx1.own.frozen 5
    have k0 := hx1.own.cell 0
    simp at k5 k0
    rw [HNB.out]
    dsimp only
    have H1 := Lib.hid h1
    have HX1 := Lib.hid hx1
    clear hx1 HTG h1 c0 c1 c2 c3 c4 c5
    have hcs : Chg [u, gn, go, gd] w1 (w1.setCell ⟨u, 5, none⟩ (.int .i64 ((1 : Nat) : Int))) := (Chg.refl _ w1).setCell (by simp) _
    have hos : Own (w1.setCell ⟨u, 5, none⟩ (.int .i64 ((1 : Nat) : Int))) u 81 [.pointer (some ⟨q, 0, none⟩), .int .i64 (S.h : Int), .slice aL xs.length cL, .slice aW ys.length cW, .bool (decide (S.h ≠ S.h')), .int .i64 ((1 : Nat) : Int)] := HX1.out.own.set 5 _
    have hds : Rdk (w1.setCell ⟨u, 5, none⟩ (.int .i64 ((1 : Nat) : Int))) q gn go gd n (now S.F (wrP S.m f B (List.range' q0 0))) S.F (fun i => ((wrP S.m f B (List.range' q0 0)) i).isSome) := by
      obtain ⟨d1, d2, d3, d4⟩ := HTC.out.uD
      exact HX1.out.dk.keep ((Chg.refl [u] w1).setCell (by simp) _) (by simpa using d1.symm) (by simpa using d2.symm) (by simpa using d3.symm) (by simpa using d4.symm)
    have HR0 := Lib.hid (And.intro hos (And.intro hds hcs))
    clear hcs hos hds k0
    go_wp2_with fail
    go_loopw [6] (fun i wr => ∃ j at_ : Nat, i = .int .i64 at_ ∧ Hid (at_ = (q0 + j) * 64) ∧ Hid (j ≤ secN fr nB) ∧ Hid (Own wr u 81 [.pointer (some ⟨q, 0, none⟩), .int .i64 (S.h : Int), .slice aL xs.length cL, .slice aW ys.length cW, .bool (decide (S.h ≠ S.h')), .int .i64 ((1 : Nat) : Int)] ∧ Rdk wr q gn go gd n (now S.F (wrP S.m f B (List.range' q0 j))) S.F (fun i => ((wrP S.m f B (List.range' q0 j)) i).isSome) ∧ Chg [u, gn, go, gd] w1 wr)) (fun i _ => nB + 64 - (intOf i).toNat)
    case atStart => exact ⟨0, at0, rfl, Lib.hid (by have := HQ.out.2; omega), Lib.hid (Nat.zero_le _), HR0⟩
    case round =>
      clear HR0 k5 f5 m0 m1
      obtain ⟨j, at_, rfl, HAT, HJ, HR⟩ := hrel
      by_cases hlt : at_ < nB
      · have hd : decide (at_ < nB) = true := by simpa using hlt
        have hk1 : (at_ : Int) < (nB : Int) := by omega
        obtain ⟨x, hx⟩ : ∃ x, x = q0 + j := ⟨_, rfl⟩
        have hxs : x < s := by have := HAT.out; omega
        obtain ⟨fx, hfx⟩ : ∃ y, y = f + x := ⟨_, rfl⟩
        have hfn : fx < n := by omega
        have p0 : (at_ : Int) / 64 = (x : Int) := by have := HAT.out; omega
        have p00 : IntKind.i64.wrap (x : Int) = (x : Int) := by rw [IntKind.wrap_i64]; omega
        have hsz : s * 64 ≤ 512 * 64 := Nat.mul_le_mul_right _ hs
        have hfle : f ≤ 1024 := by have := HTI.out.top; omega
        have p1 : IntKind.i64.wrap ((f : Int) + (x : Int)) = (fx : Int) := by rw [IntKind.wrap_i64]; omega
        obtain ⟨A64, hA⟩ : ∃ y, y = at_ + 64 := ⟨_, rfl⟩
        have p2 : IntKind.i64.wrap ((at_ : Int) + 64) = (A64 : Int) := by rw [IntKind.wrap_i64]; omega
        obtain ⟨E, hE⟩ : ∃ y, y = min A64 nB := ⟨_, rfl⟩
        have p3 : min (A64 : Int) (nB : Int) = (E : Int) := by omega
        have hE1 : at_ ≤ E := by omega
        have hE2 : E ≤ nB := by omega
        have hE3 : E - at_ = 64 ∨ nB - at_ ≤ E - at_ := by omega
        obtain ⟨gB, rfl, _, hcB, hcB2, hgB, _⟩ := H1.out.lst.rowU8 (by rw [HNB.out]; omega)
        rw [HNB.out] at hcB
        have hcB3 : cB ≤ 9223372036854775807 := hcB2
        have hlB := H1.out.low gB (lst_bl H1.out.lst _ rfl)
        have hM := HTC.out.ltU
        have hgM : gB ∉ [u, gn, go, gd] := fun hm => by have := hM gB hm; omega
        have hroB : Ro wr w1.heap.size (some ⟨gB, 0, none⟩) (u8s B) := H1.out.ro.chgs HR.out.2.2 (fun y hy => by injection hy with hy; subst hy; exact hgM)
        have hro2 := (hroB.drop at_ cB (by rw [u8s_length, HNB.out]; exact hcB)).take (E - at_)
        rw [if_neg (by omega), show ((u8s B).drop at_).take (E - at_) = u8s ((B.drop at_).take (E - at_)) from by simp [u8s, List.map_drop, List.map_take]] at hro2
        have hpl : ((B.drop at_).take (E - at_)).length = E - at_ := by rw [List.length_take, List.length_drop, HNB.out]; omega
        have hfp : fillS ((B.drop at_).take (E - at_)) = fillS (B.drop (x * 64)) := by
          rw [fill_part _ _ (by rw [List.length_drop, HNB.out]; exact hE3)]
          rw [show at_ = x * 64 from by have := HAT.out; omega]
        have hfi := rfill_any wr.drew (some ⟨gB, at_, none⟩) ((B.drop at_).take (E - at_)) (cB - at_) w1.heap.size ((show Ro wr w1.heap.size (some ⟨gB, at_, none⟩) _ from by by_cases h0 : at_ = 0 <;> simpa [Addr.add, h0] using hro2).chgs (Chg.refl [] wr).drew (by simp)) HR.out.2.2.size
        rw [hpl, hfp] at hfi
        have HFI := Lib.hid hfi
        have HSE := Lib.hid (show Calls Tryz.prog 34 #[.pointer (some ⟨u, 0, none⟩)] wr.drew fun e w' => e = .returned (.int .i64 (s : Int)) ∧ wr.drew = w' from by
          have h := rsectors_any wr.drew (show wr.drew.cell? ⟨u, 0, none⟩ = some (.pointer (some ⟨q, 0, none⟩)) from HR.out.1.cell 0) (HR.out.2.1.kept (Chg.refl [] wr).drew)
          rw [HS.out] at h
          exact h)
        have HWR := Lib.hid (show ∀ W, Chg [] wr W → Calls Tryz.prog 15 #[.pointer (some ⟨q, 0, none⟩), .int .i64 (fx : Int), sv (fillS (B.drop (x * 64)))] W fun e w' => e = .returned (.int .i64 0) ∧ Hid (Rdk w' q gn go gd n (now S.F (wrP S.m f B (List.range' q0 (j + 1)))) S.F (fun i => ((wrP S.m f B (List.range' q0 (j + 1))) i).isSome)) ∧ Chg [gn, gd] W w' from fun W hW => by
          have h := rwr W (HR.out.2.1.kept hW) fx hfn (fillS (B.drop (x * 64))) (fillS_len _)
          rw [range_snoc, wrP_snoc, ← hx, ← hfx]
          exact h)
        have hst : (fun W : World => W.cell? ⟨u, 0, none⟩ = some (.pointer (some ⟨q, 0, none⟩))) wr.drew := HR.out.1.cell 0
        have HXX := Lib.hid (And.intro hx (And.intro hfx hA))
        have hcc1 : (cB = at_) = False := by simp; omega
        have g1 : (at_ : Int) ≤ (E : Int) := by omega
        have g2 : (E : Int) ≤ (cB : Int) := by omega
        have g3 : (E : Int) ≤ (nB : Int) := by omega
        have hugd : u ∉ [gn, gd] := by obtain ⟨d1, d2, d3, d4⟩ := HTC.out.uD; simp; exact ⟨d2, d4⟩
        generalize fillS (B.drop (x * 64)) = SX at *
        have HUG := Lib.hid hugd
        have HPP := Lib.hid (And.intro n0 (And.intro n1 hfle))
        clear hx hfx hA hro2 hroB hpl hfp hfi hgM hM hE hlt hE1 hE2 hE3 hlB hgB hcB hcB2 hugd
        go_upto_region 10 with fail
        refine wp_region_held_drew (S := (fun W : World => W.cell? ⟨u, 0, none⟩ = some (.pointer (some ⟨q, 0, none⟩)))) (by kernel_rfl) hst (fun hHeld => ?_)
        refine wpAnyH_take (i := 0) (v := ?_) rfl (by kernel_rfl) (by kernel_rfl) (by kernel_rfl) (fun _ _ _ h => h) (Or.inl ⟨by kernel_rfl, ?_⟩) hHeld ?_
        rotate_left
        · (intro w hSw; first | (go_simp; done) | (go_simp; with_reducible rfl))
        (try simp only [Act.put, List.getElem_toArray, List.getElem_cons_succ, List.getElem_cons_zero, List.setIfInBounds_toArray, List.set_cons_zero, List.set_cons_succ])
        refine wpAnyH_take (i := 1) (v := ?_) rfl (by kernel_rfl) (by kernel_rfl) (by kernel_rfl) (fun _ _ _ h => h) (Or.inl ⟨by kernel_rfl, ?_⟩) hHeld ?_
        rotate_left
        · (intro w hSw; first | (go_simp; done) | (go_simp; with_reducible rfl))
        (try simp only [Act.put, List.getElem_toArray, List.getElem_cons_succ, List.getElem_cons_zero, List.setIfInBounds_toArray, List.set_cons_zero, List.set_cons_succ])
        refine wpAnyH_take (i := 2) (v := ?_) rfl (by kernel_rfl) (by kernel_rfl) (by kernel_rfl) (fun _ _ _ h => h) (Or.inl ⟨by kernel_rfl, ?_⟩) hHeld ?_
        rotate_left
        · (intro w hSw; first | (go_simp; done) | (go_simp; with_reducible rfl))
        (try simp only [Act.put, List.getElem_toArray, List.getElem_cons_succ, List.getElem_cons_zero, List.setIfInBounds_toArray, List.set_cons_zero, List.set_cons_succ])
        refine wpAnyH_take (i := 3) (v := ?_) rfl (by kernel_rfl) (by kernel_rfl) (by kernel_rfl) (fun _ _ _ h => h) (Or.inl ⟨by kernel_rfl, ?_⟩) hHeld ?_
        rotate_left
        · (intro w hSw; first | (go_simp; done) | (go_simp; with_reducible rfl))
        (try simp only [Act.put, List.getElem_toArray, List.getElem_cons_succ, List.getElem_cons_zero, List.setIfInBounds_toArray, List.set_cons_zero, List.set_cons_succ])
        refine wpAnyH_take (i := 4) (v := ?_) rfl (by kernel_rfl) (by kernel_rfl) (by kernel_rfl) (fun _ _ _ h => h) (Or.inl ⟨by kernel_rfl, ?_⟩) hHeld ?_
        rotate_left
        · (intro w hSw; first | (go_simp; done) | (go_simp; with_reducible rfl))
        (try simp only [Act.put, List.getElem_toArray, List.getElem_cons_succ, List.getElem_cons_zero, List.setIfInBounds_toArray, List.set_cons_zero, List.set_cons_succ])
        refine wpAnyH_take (i := 5) (v := ?_) rfl (by kernel_rfl) (by kernel_rfl) (by kernel_rfl) (fun _ _ _ h => h) (Or.inl ⟨by kernel_rfl, ?_⟩) hHeld ?_
        rotate_left
        · (intro w hSw; first | (go_simp; done) | (go_simp; with_reducible rfl))
        (try simp only [Act.put, List.getElem_toArray, List.getElem_cons_succ, List.getElem_cons_zero, List.setIfInBounds_toArray, List.set_cons_zero, List.set_cons_succ])
        refine wpAnyH_take (i := 9) (v := ?_) rfl (by kernel_rfl) (by kernel_rfl) (by kernel_rfl) (fun _ _ _ h => h) (Or.inl ⟨by kernel_rfl, ?_⟩) hHeld ?_
        rotate_left
        · (intro w hSw; first | (go_simp; done) | (go_simp; with_reducible rfl))
        (try simp only [Act.put, List.getElem_toArray, List.getElem_cons_succ, List.getElem_cons_zero, List.setIfInBounds_toArray, List.set_cons_zero, List.set_cons_succ])
        refine wpAnyH_take (i := 10) (v := ?_) rfl (by kernel_rfl) (by kernel_rfl) (by kernel_rfl) (fun _ _ _ h => h) (Or.inl ⟨by kernel_rfl, ?_⟩) hHeld ?_
        rotate_left
        · (intro w hSw; first | (go_simp; done) | (go_simp; with_reducible rfl))
        (try simp only [Act.put, List.getElem_toArray, List.getElem_cons_succ, List.getElem_cons_zero, List.setIfInBounds_toArray, List.set_cons_zero, List.set_cons_succ])
        refine wpAnyH_take (i := 12) (v := ?_) rfl (by kernel_rfl) (by kernel_rfl) (by kernel_rfl) (fun _ _ _ h => h) (Or.inl ⟨by kernel_rfl, ?_⟩) hHeld ?_
        rotate_left
        · (intro w hSw; first | (go_simp; done) | (go_simp; with_reducible rfl))
        (try simp only [Act.put, List.getElem_toArray, List.getElem_cons_succ, List.getElem_cons_zero, List.setIfInBounds_toArray, List.set_cons_zero, List.set_cons_succ])
        refine wpAnyH_take (i := 13) (v := ?_) rfl (by kernel_rfl) (by kernel_rfl) (by kernel_rfl) (fun _ _ _ h => h) (Or.inl ⟨by kernel_rfl, ?_⟩) hHeld ?_
        rotate_left
        · (intro w hSw; first | (go_simp; done) | (go_simp; with_reducible rfl))
        (try simp only [Act.put, List.getElem_toArray, List.getElem_cons_succ, List.getElem_cons_zero, List.setIfInBounds_toArray, List.set_cons_zero, List.set_cons_succ])
        refine wpAnyH_take (i := 14) (v := ?_) rfl (by kernel_rfl) (by kernel_rfl) (by kernel_rfl) (fun _ _ _ h => h) (Or.inl ⟨by kernel_rfl, ?_⟩) hHeld ?_
        rotate_left
        · (intro w hSw; first | (go_simp; done) | (go_simp; with_reducible rfl))
        (try simp only [Act.put, List.getElem_toArray, List.getElem_cons_succ, List.getElem_cons_zero, List.setIfInBounds_toArray, List.set_cons_zero, List.set_cons_succ])
        refine wpAnyH_take (i := 15) (v := ?_) rfl (by kernel_rfl) (by kernel_rfl) (by kernel_rfl) (fun _ _ _ h => h) (Or.inl ⟨by kernel_rfl, ?_⟩) hHeld ?_
        rotate_left
        · (intro w hSw; first | (go_simp; done) | (go_simp; with_reducible rfl))
        (try simp only [Act.put, List.getElem_toArray, List.getElem_cons_succ, List.getElem_cons_zero, List.setIfInBounds_toArray, List.set_cons_zero, List.set_cons_succ])
        refine wpAnyH_take (i := 16) (v := ?_) rfl (by kernel_rfl) (by kernel_rfl) (by kernel_rfl) (fun _ _ _ h => h) (Or.inl ⟨by kernel_rfl, ?_⟩) hHeld ?_
        rotate_left
        · (intro w hSw; first | (go_simp; done) | (go_simp; with_reducible rfl))
        (try simp only [Act.put, List.getElem_toArray, List.getElem_cons_succ, List.getElem_cons_zero, List.setIfInBounds_toArray, List.set_cons_zero, List.set_cons_succ])
        refine wpAnyH_take (i := 17) (v := ?_) rfl (by kernel_rfl) (by kernel_rfl) (by kernel_rfl) (fun _ _ _ h => h) (Or.inl ⟨by kernel_rfl, ?_⟩) hHeld ?_
        rotate_left
        · (intro w hSw; first | (go_simp; done) | (go_simp; with_reducible rfl))
        (try simp only [Act.put, List.getElem_toArray, List.getElem_cons_succ, List.getElem_cons_zero, List.setIfInBounds_toArray, List.set_cons_zero, List.set_cons_succ])
        refine wpAnyH_take (i := 18) (v := ?_) rfl (by kernel_rfl) (by kernel_rfl) (by kernel_rfl) (fun _ _ _ h => h) (Or.inl ⟨by kernel_rfl, ?_⟩) hHeld ?_
        rotate_left
        · (intro w hSw; first | (go_simp; done) | (go_simp; with_reducible rfl))
        (try simp only [Act.put, List.getElem_toArray, List.getElem_cons_succ, List.getElem_cons_zero, List.setIfInBounds_toArray, List.set_cons_zero, List.set_cons_succ])
        refine wpAnyH_take (i := 19) (v := ?_) rfl (by kernel_rfl) (by kernel_rfl) (by kernel_rfl) (fun _ _ _ h => h) (Or.inl ⟨by kernel_rfl, ?_⟩) hHeld ?_
        rotate_left
        · (intro w hSw; first | (go_simp; done) | (go_simp; with_reducible rfl))
        (try simp only [Act.put, List.getElem_toArray, List.getElem_cons_succ, List.getElem_cons_zero, List.setIfInBounds_toArray, List.set_cons_zero, List.set_cons_succ])
        refine wpAnyH_ready (rs := [6]) (by kernel_rfl) (by simp) (AllReadyH.cons rfl (fun K hK => ?_) AllReadyH.nil)
        have hH := hHeld
        (go_simp; go_at_call 34; refine HSE.out.mono ?_; rintro e w' ⟨rfl, rfl⟩)
        refine hK.out _ _ (by exact hH) (fun hHq1 => ?_)
        clear hK K hH 
        (try simp only [Act.put, List.getElem_toArray, List.getElem_cons_succ, List.getElem_cons_zero, List.setIfInBounds_toArray, List.set_cons_zero, List.set_cons_succ])
        refine wpAnyH_take (i := 7) (v := ?_) rfl (by kernel_rfl) (by kernel_rfl) (by kernel_rfl) (fun _ _ _ h => h) (Or.inl ⟨by kernel_rfl, ?_⟩) hHq1 ?_
        rotate_left
        · (intro w hSw; first | (go_simp; done) | (go_simp; with_reducible rfl))
        (try simp only [Act.put, List.getElem_toArray, List.getElem_cons_succ, List.getElem_cons_zero, List.setIfInBounds_toArray, List.set_cons_zero, List.set_cons_succ])
        refine wpAnyH_take (i := 8) (v := ?_) rfl (by kernel_rfl) (by kernel_rfl) (by kernel_rfl) (fun _ _ _ h => h) (Or.inl ⟨by kernel_rfl, ?_⟩) hHq1 ?_
        rotate_left
        · (intro w hSw; first | (go_simp; done) | (go_simp; with_reducible rfl))
        (try simp only [Act.put, List.getElem_toArray, List.getElem_cons_succ, List.getElem_cons_zero, List.setIfInBounds_toArray, List.set_cons_zero, List.set_cons_succ])
        refine wpAnyH_take (i := 11) (v := ?_) rfl (by kernel_rfl) (by kernel_rfl) (by kernel_rfl) (fun _ _ _ h => h) (Or.inl ⟨by kernel_rfl, ?_⟩) hHq1 ?_
        rotate_left
        · (intro w hSw; first | (go_simp; done) | (go_simp; with_reducible rfl))
        (try simp only [Act.put, List.getElem_toArray, List.getElem_cons_succ, List.getElem_cons_zero, List.setIfInBounds_toArray, List.set_cons_zero, List.set_cons_succ])
        refine wpAnyH_ready (rs := [20]) (by kernel_rfl) (by simp) (AllReadyH.cons rfl (fun K hK => ?_) AllReadyH.nil)
        have hH := hHq1
        (go_simp; go_at_call 16; refine HFI.out.mono ?_; rintro e w8 ⟨rfl, hc8⟩)
        refine hK.out _ _ (by exact hc8.cell hH (by simp)) (fun hHq2 => ?_)
        clear hK K hH hHq1
        (try simp only [Act.put, List.getElem_toArray, List.getElem_cons_succ, List.getElem_cons_zero, List.setIfInBounds_toArray, List.set_cons_zero, List.set_cons_succ])
        refine wpAnyH_ready (rs := [21]) (by kernel_rfl) (by simp) (AllReadyH.cons rfl (fun K hK => ?_) AllReadyH.nil)
        have hH := hHq2
        (go_simp; go_at_call 15; refine (HWR.out _ ((Chg.refl [] wr).drew.trans hc8)).mono ?_; rintro e w9 ⟨rfl, hr9, hc9⟩)
        refine hK.out _ _ (by exact hc9.cell hH HUG.out) (fun hHq3 => ?_)
        clear hK K hH hHq2
        (try simp only [Act.put, List.getElem_toArray, List.getElem_cons_succ, List.getElem_cons_zero, List.setIfInBounds_toArray, List.set_cons_zero, List.set_cons_succ])
        refine wpAnyH_done (by kernel_rfl) ?_ _
        have hEnd := hHq3
        have hcm : Chg [u, gn, go, gd] wr w9 := ((Chg.refl [] wr).drew.trans hc8).mono (by simp) |>.then hc9 (fun y hy => .inl (by simp only [List.mem_cons, List.mem_nil_iff, or_false] at hy ⊢; rcases hy with h | h <;> simp [h]))
        have ho9 : Own w9 u 81 [.pointer (some ⟨q, 0, none⟩), .int .i64 (S.h : Int), .slice aL xs.length cL, .slice aW ys.length cW, .bool (decide (S.h ≠ S.h')), .int .i64 ((1 : Nat) : Int)] := (HR.out.1.chg ((Chg.refl [] wr).drew.trans hc8) (by simp)).chg hc9 HUG.out
        have HR9 := Lib.hid (And.intro ho9 (And.intro hr9.out (HR.out.2.2.trans hcm)))
        clear hEnd hst hr9 hc8 hc9 hcm ho9
        go_wp2_with fail
        go_roundw
        case rel => exact ⟨j + 1, A64, by go_num, Lib.hid (by have := HXX.out; have := HAT.out; omega), Lib.hid (by have := HXX.out; have := HAT.out; exact (secN_lt fr nB j).2 (by have := HQ.out.1; omega)), HR9⟩
        case measure => have := HXX.out; simp [intOf]; omega
      · have hd : decide (at_ < nB) = false := by simpa using hlt
        have hk1 : ¬ ((at_ : Int) < (nB : Int)) := by omega
        have hj : j = secN fr nB := by
          have h1 : ¬ j < secN fr nB := fun h => hlt (by have := (secN_lt fr nB j).1 h; have := HAT.out; have := HQ.out.1; omega)
          have := HJ.out
          omega
        have HE2 := Lib.hid hj
        clear hlt hj
        go_wp2_with fail
        go_ret
        rw [HST.out]
        have hw : wrP S.m f B (List.range' q0 j) = wfM n S.h S.h' S.L S.L' S.m := by
          unfold wfM
          rw [HE2.out, HB.out, HS.out, ← HFF.out, show fromN S.h S.h' S.L = fr from HFR.out, HNB.out, HQ.out.1]
        have hfin := HTC.out.remake ((H1.out.chg.mono (by simp)).trans HR.out.2.2) HR.out.1 HR.out.2.1
        rw [hw] at hfin
        exact ⟨rfl, Lib.hid ⟨aL, cL, xs, aW, cW, ys, hfin, HEE.out.1, HEE.out.2⟩, (H1.out.chg.mono (by simp)).trans HR.out.2.2⟩
end
end Go.Proofs.YtdiemejdbakffaaGreat
