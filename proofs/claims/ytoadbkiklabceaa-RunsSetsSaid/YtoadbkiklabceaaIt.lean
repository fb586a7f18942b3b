/-
  Contract of within (package runs): the iterator over the parts of a set that lie in a run. No claim of its own.
-/
import Derived.Test.YtoadbkiklabceaaSet
import Derived.RangeFuncNested
import Derived.RangeFuncBound
import Derived.RangeFuncCalls
import Derived.RangeFuncLeaves
import Derived.Shelf.Abstract
import Derived.Shelf.RegionOpen
import Derived.WalkKit
import Derived.OwnWalkIn
import Derived.TacticsInMore
import Derived.LoopNIn
import Derived.LoopIn
import Derived.Deep.RegionHeld3
namespace Go.Proofs.Ytoadbkiklabceaa
open Go.RowKit Go.Shelf Go.Deep
set_option linter.unusedVariables false
set_option linter.unusedSimpArgs false
attribute [local go_sem] Oper.semAt_some

/-- a set, or none: the value sp; its blocks lie in FS -/
def SetV (w : World) (sp : Value) (FS : List Nat) (L : List Rn) : Prop :=
  (sp = .pointer none ∧ L = []) ∨ ∃ p v, sp = .pointer (some ⟨p, 0, none⟩) ∧ St w p v L ∧ p ∈ FS ∧ ∀ g, v.ownBlock = some g → g ∈ FS
/-- a run that has numbers -/
abbrev GR := {x : Rn // x.1 < x.2 ∧ Fit x}
def encG (x : GR) : Array Value := #[rv x.1]
def vals (xs : List GR) : List Rn := xs.map (·.1)
theorem within_any (sp : Option Addr) (r : Rn) (w : World) : Calls Try.prog 48 #[.pointer sp, rv r] w fun e w' => e = .returned (.func (.func 58) #[] #[.pointer (some ⟨w.heap.size, 0, none⟩), .pointer (some ⟨w.heap.size + 1, 0, none⟩)]) ∧ w' = (w.alloc (.cells #[.pointer sp] 24)).alloc (rb r 28) := by
  go_enter Try.func48, Try.ntmps48
  go_wp2
  go_ret
  exact ⟨rfl, rfl⟩
theorem roundIn_any {P : Program} {n m l : Nat} {f : FuncId} {tmps : Array Value} {assign body : Code} {w : World} {R : Ending → World → Prop} (h : RoundIn Fence.wide n P l f tmps assign body w R) : RoundIn Fence.wide m P l f tmps assign body w R :=
  ⟨h.1, fun c cs _ => h.2 c cs (room_wide _)⟩
/-- the blocks of FS lie as they lay -/
def Same (FS : List Nat) (a w : World) : Prop := a.heap.size ≤ w.heap.size ∧ ∀ k ∈ FS, w.heap[k]? = a.heap[k]?
theorem Same.refl (FS : List Nat) (a : World) : Same FS a a := ⟨Nat.le_refl _, fun _ _ => rfl⟩
theorem Same.trans {FS : List Nat} {a b c : World} (h : Same FS a b) (k : Same FS b c) : Same FS a c := ⟨Nat.le_trans h.1 k.1, fun i hi => (k.2 i hi).trans (h.2 i hi)⟩
theorem Same.low {FS : List Nat} {a b : World} (h : Below a.heap.size a b) (hF : ∀ k ∈ FS, k < a.heap.size) : Same FS a b := ⟨h.size, fun k hk => h.block k (hF k hk)⟩
theorem Own.same {FS : List Nat} {a w : World} {g : Nat} {t : TypeId} {cs : List Value} (ho : Own a g t cs) (h : Same FS a w) (hg : g ∈ FS) : Own w g t cs := (h.2 g hg).trans ho
theorem St.same {FS : List Nat} {a w : World} {p : Nat} {v : Value} {L : List Rn} (h : St a p v L) (hS : Same FS a w) (hp : p ∈ FS) (hg : ∀ g, v.ownBlock = some g → g ∈ FS) : St w p v L := by
  refine ⟨h.own.same hS hp, ⟨h.row.1, ?_⟩, h.nf, h.fit, h.len⟩
  rcases h.row.2 with hn | ⟨g, cap, cur, rfl, hb, hgg, rest⟩
  · exact .inl hn
  · exact .inr ⟨g, cap, cur, rfl, hb, (hS.2 g (hg g rfl)).trans hgg, rest⟩
theorem Below.grow0 {B : Nat} {a b : World} (h : Below a.heap.size a b) : a.grownBy b none := ⟨h.os, h.tape, h.output, h.size, fun k hk _ => h.block k hk⟩
theorem parts_pre {L : List Rn} (r : Rn) (i : Nat) : parts L r = parts (L.take i) r ++ parts (L.drop i) r := by rw [← parts_append, List.take_append_drop]
theorem take_el {L : List Rn} {i : Nat} (h : i < L.length) : L.take (i + 1) = L.take i ++ [el L i] := by
  rw [List.take_succ_eq_append_getElem h]
  simp [el, List.getD, h]
theorem drop_el {L : List Rn} {i : Nat} (h : i < L.length) : L.drop i = el L i :: L.drop (i + 1) := by
  rw [List.drop_eq_getElem_cons h]
  simp [el, List.getD, h]
theorem parts_step {L : List Rn} {i : Nat} (h : i < L.length) {r : Rn} (hm : (met (el L i) r).1 < (met (el L i) r).2) : parts (L.take (i + 1)) r = parts (L.take i) r ++ [met (el L i) r] := by
  rw [take_el h, parts_append, parts, if_pos hm, parts]
theorem parts_end {L : List Rn} (hN : NF L) {i : Nat} (h : i < L.length) {r : Rn} (hm : ¬ (met (el L i) r).1 < (met (el L i) r).2) (hx : r.1 < (el L i).2) : parts L r = parts (L.take i) r := by
  have hd := hN.drop i
  rw [drop_el h] at hd
  rw [parts_pre r i, drop_el h, parts_stop hd hm hx, List.append_nil]
theorem parts_len_lt {L : List Rn} {i : Nat} (h : i < L.length) {r : Rn} (hm : (met (el L i) r).1 < (met (el L i) r).2) : (parts (L.take i) r).length < (parts L r).length := by
  rw [parts_pre r i (L := L), drop_el h, parts, if_pos hm, List.length_append, List.length_cons]
  omega
theorem parts_pref {L : List Rn} {r : Rn} (i : Nat) : parts (L.take i) r <+: parts L r := ⟨_, (parts_pre r i).symm⟩
theorem met_fit {x r : Rn} (hx : Fit x) (hr : Fit r) : Fit (met x r) := by
  unfold Fit at *
  simp only [met]
  omega

set_option maxRecDepth 100000 in
set_option maxHeartbeats 2000000 in
theorem within_some (n p : Nat) (v : Value) (L : List Rn) (r : Rn) (bs br : Nat) (w : World) (FS : List Nat) (hs : St w p v L) (hp : p ∈ FS) (hg : ∀ g, v.ownBlock = some g → g ∈ FS) (hbs : Own w bs 24 [.pointer (some ⟨p, 0, none⟩)]) (hbr : Own w br 28 [.int .u64 (r.1 : Int), .int .u64 (r.2 : Int)]) (hbsF : bs ∈ FS) (hbrF : br ∈ FS) (hFS : ∀ k ∈ FS, k < w.heap.size) (hr : Fit r)
    (Kp : World → World → Prop) (hK : ∀ W W', Kp W W' → Same FS W W') :
    SeqStopsK Fence.wide n Try.prog 58 #[.pointer (some ⟨bs, 0, none⟩), .pointer (some ⟨br, 0, none⟩)] encG Kp (fun xs => vals xs = parts L r) (fun pre => vals pre <+: parts L r) (parts L r).length w := by
  intro l J Jx W hW hJ hJx hY h0
  have hsW := hs.kept (low_chg hW)
  have hbsW := hbs.below hW hbs.lt
  have hbrW := hbr.below hW hbr.lt
  have hFW : ∀ k ∈ FS, k < W.heap.size := fun k hk => Nat.lt_of_lt_of_le (hFS k hk) hW.size
  have HFW := Lib.hid hFW
  obtain ⟨a, c, rfl, hro, hlc, hc63, hnil, hbk⟩ := hsW.row.form
  have hlen := hs.len
  have hI : ∀ W1, Below W.heap.size W W1 → Calls Try.prog 37 #[.pointer (some ⟨p, 0, none⟩), .func (.func 38) #[] #[], .int .u64 r.1] W1 fun e w' => e = .returned (.int .i64 (L.countP (bEA r.1) : Nat)) ∧ Below W1.heap.size W1 w' := fun W1 h => endsAbove_ix p r.1 _ L W1 (hsW.kept (low_chg h))
  have hle : L.countP (bEA r.1) ≤ L.length := List.countP_le_length
  have hsp := split_at (hs.nf.mEA r.1)
  obtain ⟨i0, HI0⟩ : ∃ i0, Hid (L.countP (bEA r.1) = i0) := ⟨_, Lib.hid rfl⟩
  obtain ⟨k, HKl⟩ : ∃ k, Hid (L.length = k) := ⟨_, Lib.hid rfl⟩
  rw [HI0.out] at hle hsp
  simp only [HI0.out] at hI
  rw [HKl.out] at hle hlc hlen
  have c1 := hbsW.cell 0
  have c2 := hbrW.cell 0
  have c3 := hbrW.cell 1
  have c4 := hsW.cell
  simp at c1 c2 c3
  rw [HKl.out] at c4
  have HSP := Lib.hid hsp
  have HI := Lib.hid hI
  have hj1 : (0 : Int) ≤ (i0 : Int) := by omega
  have hj2 : (i0 : Int) ≤ (k : Int) := by omega
  have hci : (c = i0) = True ∨ (c = i0) = False := by by_cases h : c = i0 <;> simp [h]
  clear hI hsp hbsW hbrW hnil
  refine callsIn_of_wp Try.func58 rfl trivial ?_ rfl
  simp only [Try.ntmps58, List.size_toArray, List.length_cons, List.length_nil, Nat.reduceAdd, Nat.reduceSub, Array.replicate_succ, Array.replicate_zero, List.push_toArray, List.append_toArray, List.nil_append, List.cons_append]
  have hfull : i0 = k ∨ i0 < k := by omega
  rcases hfull with hfull | hfull
  case' inl =>
    have hci : (c = i0) = True ∨ (c = i0) = False := by by_cases h : c = i0 <;> simp [h]
    have hnone : parts L r = [] := parts_low fun x hx => by
      have := HSP.out.1 x (by rw [hfull, ← HKl.out, List.take_length]; exact hx)
      simpa [bEA] using this
    have HNN := Lib.hid hnone
    have hfull2 := hfull.symm
    clear hfull
    subst hfull2
    clear hnone
    rcases hci with hci | hci
    all_goals
      gi_wp2_with fail
      refine wpIn_wide.2 ?_
      go_region_held3 (fun w' => w'.cell? ⟨bs, 0, none⟩ = some (.pointer (some ⟨p, 0, none⟩)) ∧ w'.cell? ⟨br, 0, none⟩ = some (.int .u64 (r.1 : Int)) ∧ w'.cell? ⟨p, 0, none⟩ = some (.slice a k c) ∧ Below W.heap.size W w')
        (first
          | assumption
          | exact ⟨c1, c2, c4, (Below.refl _ _).drew⟩
          | (have hH := ‹World.cell? _ ⟨bs, 0, none⟩ = _ ∧ _›; exact ⟨(hb9.cell (World.block_lt_of_cell? _ _ hH.1)).trans hH.1, (hb9.cell (World.block_lt_of_cell? _ _ hH.2.1)).trans hH.2.1, (hb9.cell (World.block_lt_of_cell? _ _ hH.2.2.1)).trans hH.2.2.1, hH.2.2.2.trans (hb9.mono hH.2.2.2.size)⟩))
        (first
          | (go_at_call 37; have hH := ‹World.cell? _ ⟨bs, 0, none⟩ = _ ∧ _›; refine (HI.out _ hH.2.2.2).mono ?_; clear hH; rintro e w9 ⟨rfl, hb9⟩))
      have hH := ‹World.cell? w9 ⟨bs, 0, none⟩ = _ ∧ _›
      have hb1 := hH.2.2.2
      have hj9 := hJ _ _ _ _ h0 (Below.grow0 (B := 0) hb1) (fun r e => by cases e)
      clear hb9 hH
      gi_wp2_with fail
      refine wpIn_loop_rounds 1 ?_
      rw [roundsIn_succ]
      gi_wp2_with fail
      go_end0
      exact ⟨⟨_, rfl⟩, .inl ⟨[], by rw [HNN.out]; rfl, hj9⟩⟩
  case' inr =>
    have hci2 : (c = i0) = False := by simp; omega
    obtain ⟨g, off, rfl, hgl, hcells⟩ := hro.rn (by rw [HKl.out]; omega)
    obtain ⟨rfl, _, _, _, hob⟩ := hbk _ _ _ rfl
    have hgF := hg _ hob
    have HC := Lib.hid hcells
    have hbp := hsW.own.lt
    have HNF := Lib.hid hs.nf
    have HFT := Lib.hid hs.fit
    have HBS := Lib.hid (hbs.below hW hbs.lt)
    have HBR := Lib.hid (hbr.below hW hbr.lt)
    clear hcells hbk hro hci hbs hbr hs hg
    gi_wp2_with fail
    refine wpIn_wide.2 ?_
    go_region_held3 (fun w' => w'.cell? ⟨bs, 0, none⟩ = some (.pointer (some ⟨p, 0, none⟩)) ∧ w'.cell? ⟨br, 0, none⟩ = some (.int .u64 (r.1 : Int)) ∧ w'.cell? ⟨p, 0, none⟩ = some (.slice (some ⟨g, 0, none⟩) k c) ∧ Below W.heap.size W w')
      (first
        | assumption
        | exact ⟨c1, c2, c4, (Below.refl _ _).drew⟩
        | (have hH := ‹World.cell? _ ⟨bs, 0, none⟩ = _ ∧ _›; exact ⟨(hb9.cell (World.block_lt_of_cell? _ _ hH.1)).trans hH.1, (hb9.cell (World.block_lt_of_cell? _ _ hH.2.1)).trans hH.2.1, (hb9.cell (World.block_lt_of_cell? _ _ hH.2.2.1)).trans hH.2.2.1, hH.2.2.2.trans (hb9.mono hH.2.2.2.size)⟩))
      (first
        | (go_at_call 37; have hH := ‹World.cell? _ ⟨bs, 0, none⟩ = _ ∧ _›; refine (HI.out _ hH.2.2.2).mono ?_; clear hH; rintro e w9 ⟨rfl, hb9⟩))
    have hH := ‹World.cell? w9 ⟨bs, 0, none⟩ = _ ∧ _›
    have hb1 := hH.2.2.2
    have hj9 := hJ _ _ _ _ h0 (Below.grow0 (B := 0) hb1) (fun r e => by cases e)
    clear hb9 hH
    gi_wp2_with fail
    have hS9 : Same FS W w9 := Same.low hb1 HFW.out
    have HS9 := Lib.hid hS9
    have hWs := hb1.size
    clear c1 c2 c3 c4 h0 hS9 hb1
    gi_loopw [19] (fun i wr => ∃ (j : Nat) (pre : List GR), i = .int .i64 (j : Int) ∧ j ≤ k - i0 ∧ vals pre = parts (L.take (i0 + j)) r ∧ J pre wr ∧ Same FS W wr) (fun i _ => k - i0 - (intOf i).toNat)
    case atStart =>
      refine ⟨0, [], rfl, Nat.zero_le _, ?_, hj9, HS9.out⟩
      rw [Nat.add_zero]
      exact (parts_low fun x hx => by have := HSP.out.1 x hx; simpa [bEA] using this).symm
    case round =>
      obtain ⟨j, pre, rfl, hj, hpre, hjj, hS⟩ := hrel
      by_cases hlt : j < k - i0
      · have hdt : decide (j < k - i0) = true := by simpa using hlt
        have hj0 : (0 : Int) ≤ (j : Int) := by omega
        have hj3 : (j : Int) < ((k - i0 : Nat) : Int) := by omega
        have hL : i0 + j < L.length := by rw [HKl.out]; omega
        have hcc := HC.out (i0 + j) hL
        have hx := el_mem hL
        have hxl : r.1 < (el L (i0 + j)).2 := by
          have : el L (i0 + j) ∈ L.drop i0 := by
            have e : el L (i0 + j) = (L.drop i0)[j]'(by rw [List.length_drop]; omega) := by simp [el, List.getD, hL]
            rw [e]; exact List.getElem_mem _
          have := HSP.out.2 _ this
          simp [bEA] at this
          exact this
        have hxf := fit_el HFT.out HNF.out _ hx
        have HEND := Lib.hid (fun hm => parts_end HNF.out hL (r := r) hm hxl)
        have HSTEP := Lib.hid (fun hm => parts_step hL (r := r) hm)
        have HLT := Lib.hid (fun hm => parts_len_lt hL (r := r) hm)
        generalize el L (i0 + j) = x at *
        have hx1 : wr.cell? ⟨g, i0 * 2 + j * 2, none⟩ = some (.int .u64 (x.1 : Int)) := by
          rw [World.cell?_of_block (w := W) (hS.2 g hgF), show i0 * 2 + j * 2 = 0 + (i0 + j) * 2 by omega]; exact hcc.1
        have hx2 : wr.cell? ⟨g, i0 * 2 + j * 2 + 1, none⟩ = some (.int .u64 (x.2 : Int)) := by
          rw [World.cell?_of_block (w := W) (hS.2 g hgF), show i0 * 2 + j * 2 + 1 = 0 + (i0 + j) * 2 + 1 by omega]; exact hcc.2
        have hr1 := (HBR.out.same hS hbrF).cell 0
        have hr2 := (HBR.out.same hS hbrF).cell 1
        simp at hr1 hr2
        have hbrl := (HBR.out.same hS hbrF).lt
        have HM := Lib.hid (fun W => met_any x r W)
        have hyf := met_fit hxf hr
        generalize met x r = y at HM HEND HSTEP HLT hyf
        clear hcc hx hxl
        gi_wp2_with fail
        refine ⟨trivial, (fun h => by cases h), ?_⟩
        refine (callsIn_wide.2 (HM.out _)).mono ?_
        rintro e w2 ⟨rfl, hb2⟩
        have hb2' : Below wr.heap.size wr w2 := ((Below.refl _ wr).alloc (Nat.le_refl _) _).trans (hb2.mono (by simp))
        have hb4 : Below wr.heap.size wr ((w2.alloc (rb y 28)).alloc (rb y 28)) := (hb2'.alloc hb2'.size _).alloc (by simp; have := hb2'.size; omega) _
        have hj4 := hJ _ _ _ _ hjj (Below.grow0 (B := 0) hb4) (fun r e => by cases e)
        have hS4 := hS.trans (Same.low hb4 (fun k hk => Nat.lt_of_lt_of_le (HFW.out k hk) hS.1))
        have hpl : (vals pre).length = pre.length := by simp [vals]
        clear hb2 hb2' hx1 hx2 hr1 hr2 hb4
        gi_wp2_with fail
        refine ⟨trivial, (fun h => by cases h), ?_⟩
        refine (callsIn_wide.2 (empty_any y _)).mono ?_
        rintro e w4 ⟨rfl, rfl⟩
        by_cases hyn : y.1 < y.2
        · have hd : decide (y.2 ≤ y.1) = false := by simp; omega
          obtain ⟨fn, tmps, assign, body, hyy, hR⟩ := hY pre ⟨y, hyn, hyf⟩ _ hj4 (by have := HLT.out hyn; rw [← hpre, hpl] at this; exact this)
          dsimp only [encG] at hyy
          have HYN := Lib.hid hyn
          have hpost : vals (pre ++ [⟨y, hyn, hyf⟩]) = parts (L.take (i0 + (j + 1))) r := by
            rw [← Nat.add_assoc, HSTEP.out hyn, ← hpre]; simp [vals]
          have HPO := Lib.hid hpost
          generalize (⟨y, hyn, hyf⟩ : GR) = yg at hR HPO
          clear hpost hyn
          gi_wp2_with fail
          refine ⟨(fun h => by cases h), (roundIn_any hR).mono ?_⟩
          rintro e W5 (⟨rfl, hj5, hk5⟩ | ⟨rfl, hjx5⟩)
          · gi_wp2_with fail
            go_roundw
            case rel => exact ⟨j + 1, pre ++ [yg], by go_num, by omega, HPO.out, hj5, hS4.trans (hK _ _ hk5)⟩
            case measure => simp [intOf]; omega
          · gi_wp2_with fail
            refine bodyPost_ret (results_none rfl _ _ _) rfl ?_
            exact ⟨⟨_, rfl⟩, .inr ⟨pre ++ [yg], by rw [HPO.out]; exact parts_pref _, hjx5⟩⟩
        · have hd : decide (y.2 ≤ y.1) = true := by simp; omega
          have HE := Lib.hid (HEND.out hyn)
          clear hyn
          gi_wp2_with fail
          refine ⟨fun _ h => (by cases h), ?_⟩
          gi_wp2_with fail
          refine bodyPost_ret (results_none rfl _ _ _) rfl ?_
          exact ⟨⟨_, rfl⟩, .inl ⟨pre, by rw [hpre, HE.out], hj4⟩⟩
      · have hdt : decide (j < k - i0) = false := by simpa using hlt
        have hend : i0 + j = k := by omega
        have HE := Lib.hid hend
        clear hend
        gi_wp2_with fail
        go_end0
        exact ⟨⟨_, rfl⟩, .inl ⟨pre, by rw [hpre, HE.out, ← HKl.out, List.take_length], hjj⟩⟩
theorem within_none (n : Nat) (r : Rn) (bs br : Nat) (w : World) (hbs : Own w bs 24 [.pointer none]) (Kp : World → World → Prop) :
    SeqStopsK Fence.wide n Try.prog 58 #[.pointer (some ⟨bs, 0, none⟩), .pointer (some ⟨br, 0, none⟩)] encG Kp (fun xs => vals xs = parts [] r) (fun pre => vals pre <+: parts [] r) (parts [] r).length w := by
  intro l J Jx W hW hJ hJx hY h0
  have c1 := (hbs.below hW hbs.lt).cell 0
  simp at c1
  refine callsIn_of_wp Try.func58 rfl trivial ?_ rfl
  simp only [Try.ntmps58, List.size_toArray, List.length_cons, List.length_nil, Nat.reduceAdd, Nat.reduceSub, Array.replicate_succ, Array.replicate_zero, List.push_toArray, List.append_toArray, List.nil_append, List.cons_append]
  gi_wp2_with fail
  refine bodyPost_ret (results_none rfl _ _ _) rfl ?_
  exact ⟨⟨_, rfl⟩, .inl ⟨[], rfl, h0⟩⟩
/-- the iterator's contract, whole: behind a call of within -/
theorem within_stops (n : Nat) (sp : Option Addr) (L : List Rn) (r : Rn) (bs br : Nat) (w : World) (FS : List Nat) (hs : SetV w (.pointer sp) FS L) (hbs : Own w bs 24 [.pointer sp]) (hbr : Own w br 28 [.int .u64 (r.1 : Int), .int .u64 (r.2 : Int)]) (hFS : ∀ k ∈ FS, k < w.heap.size) (hr : Fit r)
    (Kp : World → World → Prop) (hK : ∀ W W', Kp W W' → Same (bs :: br :: FS) W W') :
    SeqStopsK Fence.wide n Try.prog 58 #[.pointer (some ⟨bs, 0, none⟩), .pointer (some ⟨br, 0, none⟩)] encG Kp (fun xs => vals xs = parts L r) (fun pre => vals pre <+: parts L r) (parts L r).length w := by
  rcases hs with ⟨h, rfl⟩ | ⟨p, v, h, hst, hp, hg⟩
  · injection h with h
    subst h
    exact within_none n r bs br w hbs Kp
  · injection h with h
    subst h
    refine within_some n p v L r bs br w (bs :: br :: FS) hst (by simp [hp]) (fun g h => by simp [hg g h]) hbs hbr (by simp) (by simp) (fun k hk => ?_) hr Kp hK
    simp only [List.mem_cons] at hk
    rcases hk with rfl | rfl | hk
    · exact hbs.lt
    · exact hbr.lt
    · exact hFS k hk
end Go.Proofs.Ytoadbkiklabceaa
