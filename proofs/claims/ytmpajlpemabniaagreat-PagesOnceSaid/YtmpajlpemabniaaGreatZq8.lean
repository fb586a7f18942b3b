/-
  Contract of within (package runs): the iterator over the parts of a set that lie in a run. No claim of its own.
-/
import Derived.RangeFuncNested
import Derived.RangeFuncBound
import Derived.RangeFuncCalls
import Derived.RangeFuncLeaves
import Derived.Shelf.Abstract
import Derived.Shelf.RegionOpen
import Derived.WalkKit
import Derived.OwnWalkIn
import Derived.TacticsInMore
import Derived.LoopNIn
import Derived.LoopIn
import Derived.Deep.RegionHeld3
import Derived.Test.YtmpajlpemabniaaGreatZq7
namespace Go.Proofs.YtmpajlpemabniaaGreat
open Go.RowKit Go.Shelf Go.Deep
set_option linter.unusedVariables false
set_option linter.unusedSimpArgs false
attribute [local go_sem] Oper.semAt_some
def SetV (w : World) (sp : Value) (FS : List Nat) (L : List Rn) : Prop :=
  (sp = .pointer none ∧ L = []) ∨ ∃ p v, sp = .pointer (some ⟨p, 0, none⟩) ∧ St w p v L ∧ p ∈ FS ∧ ∀ g, v.ownBlock = some g → g ∈ FS
abbrev GR := {x : Rn // x.1 < x.2 ∧ Fit x}
def encG (x : GR) : Array Value := #[rv x.1]
def rvals (xs : List GR) : List Rn := xs.map (·.1)
theorem within_any (sp : Option Addr) (r : Rn) (w : World) : Calls Tryz.prog 199 #[.pointer sp, rv r] w fun e w' => e = .returned (.func (.func 232) #[] #[.pointer (some ⟨w.heap.size, 0, none⟩), .pointer (some ⟨w.heap.size + 1, 0, none⟩)]) ∧ w' = (w.alloc (.cells #[.pointer sp] 135)).alloc (rb r 86) := by
  go_enter Tryz.func199, Tryz.ntmps199
  go_wp2
  go_ret
  exact ⟨rfl, rfl⟩
theorem St.same {FS : List Nat} {a w : World} {p : Nat} {v : Value} {L : List Rn} (h : St a p v L) (hS : Same FS a w) (hp : p ∈ FS) (hg : ∀ g, v.ownBlock = some g → g ∈ FS) : St w p v L := by
  refine ⟨h.own.same hS hp, ⟨h.row.1, ?_⟩, h.nf, h.fit, h.len⟩
  rcases h.row.2 with hn | ⟨g, cap, cur, rfl, hb, hgg, rest⟩
  · exact .inl hn
  · exact .inr ⟨g, cap, cur, rfl, hb, (hS.2 g (hg g rfl)).trans hgg, rest⟩
theorem parts_pre {L : List Rn} (r : Rn) (i : Nat) : parts L r = parts (L.take i) r ++ parts (L.drop i) r := by rw [← parts_append, List.take_append_drop]
theorem take_el {L : List Rn} {i : Nat} (h : i < L.length) : L.take (i + 1) = L.take i ++ [el L i] := by
  rw [List.take_succ_eq_append_getElem h]
  simp [el, List.getD, h]
theorem drop_el {L : List Rn} {i : Nat} (h : i < L.length) : L.drop i = el L i :: L.drop (i + 1) := by
  rw [List.drop_eq_getElem_cons h]
  simp [el, List.getD, h]
theorem parts_step {L : List Rn} {i : Nat} (h : i < L.length) {r : Rn} (hm : (met (el L i) r).1 < (met (el L i) r).2) : parts (L.take (i + 1)) r = parts (L.take i) r ++ [met (el L i) r] := by
  rw [take_el h, parts_append, parts, if_pos hm, parts]
theorem parts_end {L : List Rn} (hN : NF L) {i : Nat} (h : i < L.length) {r : Rn} (hm : ¬ (met (el L i) r).1 < (met (el L i) r).2) (hx : r.1 < (el L i).2) : parts L r = parts (L.take i) r := by
  have hd := hN.drop i
  rw [drop_el h] at hd
  rw [parts_pre r i, drop_el h, parts_stop hd hm hx, List.append_nil]
theorem parts_len_lt {L : List Rn} {i : Nat} (h : i < L.length) {r : Rn} (hm : (met (el L i) r).1 < (met (el L i) r).2) : (parts (L.take i) r).length < (parts L r).length := by
  rw [parts_pre r i (L := L), drop_el h, parts, if_pos hm, List.length_append, List.length_cons]
  omega
theorem parts_pref {L : List Rn} {r : Rn} (i : Nat) : parts (L.take i) r <+: parts L r := ⟨_, (parts_pre r i).symm⟩
theorem met_fit {x r : Rn} (hx : Fit x) (hr : Fit r) : Fit (met x r) := by
  unfold Fit at *
  simp only [met]
  omega
set_option maxRecDepth 100000 in
set_option maxHeartbeats 2000000 in
theorem within_some (n p : Nat) (v : Value) (L : List Rn) (r : Rn) (bs br : Nat) (w : World) (FS : List Nat) (hs : St w p v L) (hp : p ∈ FS) (hg : ∀ g, v.ownBlock = some g → g ∈ FS) (hbs : Own w bs 135 [.pointer (some ⟨p, 0, none⟩)]) (hbr : Own w br 86 [.int .u64 (r.1 : Int), .int .u64 (r.2 : Int)]) (hbsF : bs ∈ FS) (hbrF : br ∈ FS) (hFS : ∀ k ∈ FS, k < w.heap.size) (hr : Fit r)
    (Kp : World → World → Prop) (hK : ∀ W W', Kp W W' → Same FS W W') :
    SeqStopsK Fence.wide n Tryz.prog 232 #[.pointer (some ⟨bs, 0, none⟩), .pointer (some ⟨br, 0, none⟩)] encG Kp (fun xs => rvals xs = parts L r) (fun pre => rvals pre <+: parts L r) (parts L r).length w := by
  intro l J Jx W hW hJ hJx hY h0
  have hsW := hs.kept (low_chg hW)
  have hbsW := hbs.below hW hbs.lt
  have hbrW := hbr.below hW hbr.lt
  have hFW : ∀ k ∈ FS, k < W.heap.size := fun k hk => Nat.lt_of_lt_of_le (hFS k hk) hW.size
  have HFW := Lib.hid hFW
  obtain ⟨a, c, rfl, hro, hlc, hc63, hnil, hbk⟩ := hsW.row.form
  have hlen := hs.len
  have hI : ∀ W1, Below W.heap.size W W1 → Calls Tryz.prog 143 #[.pointer (some ⟨p, 0, none⟩), .func (.func 144) #[] #[], .int .u64 r.1] W1 fun e w' => e = .returned (.int .i64 (L.countP (bEA r.1) : Nat)) ∧ Below W1.heap.size W1 w' := fun W1 h => endsAbove_ix p r.1 _ L W1 (hsW.kept (low_chg h))
  have hle : L.countP (bEA r.1) ≤ L.length := List.countP_le_length
  have hsp := split_at (hs.nf.mEA r.1)
  obtain ⟨i0, HI0⟩ : ∃ i0, Hid (L.countP (bEA r.1) = i0) := ⟨_, Lib.hid rfl⟩
  obtain ⟨k, HKl⟩ : ∃ k, Hid (L.length = k) := ⟨_, Lib.hid rfl⟩
  rw [HI0.out] at hle hsp
  simp only [HI0.out] at hI
  rw [HKl.out] at hle hlc hlen
  have c1 := hbsW.cell 0
  have c2 := hbrW.cell 0
  have c3 := hbrW.cell 1
  have c4 := hsW.cell
  simp at c1 c2 c3
  rw [HKl.out] at c4
  have HSP := Lib.hid hsp
  have HI := Lib.hid hI
  have hj1 : (0 : Int) ≤ (i0 : Int) := by omega
  have hj2 : (i0 : Int) ≤ (k : Int) := by omega
  have hci : (c = i0) = True ∨ (c = i0) = False := by by_cases h : c = i0 <;> simp [h]
  clear hI hsp hbsW hbrW hnil
  refine callsIn_of_wp Tryz.func232 rfl trivial ?_ rfl
  simp only [Tryz.ntmps232, List.size_toArray, List.length_cons, List.length_nil, Nat.reduceAdd, Nat.reduceSub, Array.replicate_succ, Array.replicate_zero, List.push_toArray, List.append_toArray, List.nil_append, List.cons_append]
  have hfull : i0 = k ∨ i0 < k := by omega
  rcases hfull with hfull | hfull
  case' inl =>
    have hci : (c = i0) = True ∨ (c = i0) = False := by by_cases h : c = i0 <;> simp [h]
    have hnone : parts L r = [] := parts_low fun x hx => by
      have := HSP.out.1 x (by rw [hfull, ← HKl.out, List.take_length]; exact hx)
      simpa [bEA] using this
    have HNN := Lib.hid hnone
    have hfull2 := hfull.symm
    clear hfull
    subst hfull2
    clear hnone
    rcases hci with hci | hci
    all_goals
      gi_wp2_with fail
      refine wpIn_wide.2 ?_
      go_region_held3 (fun w' => w'.cell? ⟨bs, 0, none⟩ = some (.pointer (some ⟨p, 0, none⟩)) ∧ w'.cell? ⟨br, 0, none⟩ = some (.int .u64 (r.1 : Int)) ∧ w'.cell? ⟨p, 0, none⟩ = some (.slice a k c) ∧ Below W.heap.size W w')
        (first
          | assumption
          | exact ⟨c1, c2, c4, (Below.refl _ _).drew⟩
          | (have hH := ‹World.cell? _ ⟨bs, 0, none⟩ = _ ∧ _›; exact ⟨(hb9.cell (World.block_lt_of_cell? _ _ hH.1)).trans hH.1, (hb9.cell (World.block_lt_of_cell? _ _ hH.2.1)).trans hH.2.1, (hb9.cell (World.block_lt_of_cell? _ _ hH.2.2.1)).trans hH.2.2.1, hH.2.2.2.trans (hb9.mono hH.2.2.2.size)⟩))
        (first
          | (go_at_call 143; have hH := ‹World.cell? _ ⟨bs, 0, none⟩ = _ ∧ _›; refine (HI.out _ hH.2.2.2).mono ?_; clear hH; rintro e w9 ⟨rfl, hb9⟩))
      have hH := ‹World.cell? w9 ⟨bs, 0, none⟩ = _ ∧ _›
      have hb1 := hH.2.2.2
      have hj9 := hJ _ _ _ _ h0 (Below.grow0 hb1) (fun r e => by cases e)
      clear hb9 hH
      gi_wp2_with fail
      refine wpIn_loop_rounds 1 ?_
      rw [roundsIn_succ]
      gi_wp2_with fail
      go_end0
      exact ⟨⟨_, rfl⟩, .inl ⟨[], by rw [HNN.out]; rfl, hj9⟩⟩
  case' inr =>
    have hci2 : (c = i0) = False := by simp; omega
    obtain ⟨g, off, rfl, hgl, hcells⟩ := hro.rn (by rw [HKl.out]; omega)
    obtain ⟨rfl, _, _, _, hob⟩ := hbk _ _ _ rfl
    have hgF := hg _ hob
    have HC := Lib.hid hcells
    have hbp := hsW.own.lt
    have HNF := Lib.hid hs.nf
    have HFT := Lib.hid hs.fit
    have HBS := Lib.hid (hbs.below hW hbs.lt)
    have HBR := Lib.hid (hbr.below hW hbr.lt)
    clear hcells hbk hro hci hbs hbr hs hg
    gi_wp2_with fail
    refine wpIn_wide.2 ?_
    go_region_held3 (fun w' => w'.cell? ⟨bs, 0, none⟩ = some (.pointer (some ⟨p, 0, none⟩)) ∧ w'.cell? ⟨br, 0, none⟩ = some (.int .u64 (r.1 : Int)) ∧ w'.cell? ⟨p, 0, none⟩ = some (.slice (some ⟨g, 0, none⟩) k c) ∧ Below W.heap.size W w')
      (first
        | assumption
        | exact ⟨c1, c2, c4, (Below.refl _ _).drew⟩
        | (have hH := ‹World.cell? _ ⟨bs, 0, none⟩ = _ ∧ _›; exact ⟨(hb9.cell (World.block_lt_of_cell? _ _ hH.1)).trans hH.1, (hb9.cell (World.block_lt_of_cell? _ _ hH.2.1)).trans hH.2.1, (hb9.cell (World.block_lt_of_cell? _ _ hH.2.2.1)).trans hH.2.2.1, hH.2.2.2.trans (hb9.mono hH.2.2.2.size)⟩))
      (first
        | (go_at_call 143; have hH := ‹World.cell? _ ⟨bs, 0, none⟩ = _ ∧ _›; refine (HI.out _ hH.2.2.2).mono ?_; clear hH; rintro e w9 ⟨rfl, hb9⟩))
    have hH := ‹World.cell? w9 ⟨bs, 0, none⟩ = _ ∧ _›
    have hb1 := hH.2.2.2
    have hj9 := hJ _ _ _ _ h0 (Below.grow0 hb1) (fun r e => by cases e)
    clear hb9 hH
    gi_wp2_with fail
    have hS9 : Same FS W w9 := Same.low hb1 HFW.out
    have HS9 := Lib.hid hS9
    have hWs := hb1.size
    clear c1 c2 c3 c4 h0 hS9 hb1
    gi_loopw [19] (fun i wr => ∃ (j : Nat) (pre : List GR), i = .int .i64 (j : Int) ∧ j ≤ k - i0 ∧ rvals pre = parts (L.take (i0 + j)) r ∧ J pre wr ∧ Same FS W wr) (fun i _ => k - i0 - (intOf i).toNat)
    case atStart =>
      refine ⟨0, [], rfl, Nat.zero_le _, ?_, hj9, HS9.out⟩
      rw [Nat.add_zero]
      exact (parts_low fun x hx => by have := HSP.out.1 x hx; simpa [bEA] using this).symm
    case round =>
      obtain ⟨j, pre, rfl, hj, hpre, hjj, hS⟩ := hrel
      by_cases hlt : j < k - i0
      · have hdt : decide (j < k - i0) = true := by simpa using hlt
        have hj0 : (0 : Int) ≤ (j : Int) := by omega
        have hj3 : (j : Int) < ((k - i0 : Nat) : Int) := by omega
        have hL : i0 + j < L.length := by rw [HKl.out]; omega
        have hcc := HC.out (i0 + j) hL
        have hx := el_mem hL
        have hxl : r.1 < (el L (i0 + j)).2 := by
          have : el L (i0 + j) ∈ L.drop i0 := by
            have e : el L (i0 + j) = (L.drop i0)[j]'(by rw [List.length_drop]; omega) := by simp [el, List.getD, hL]
            rw [e]; exact List.getElem_mem _
          have := HSP.out.2 _ this
          simp [bEA] at this
          exact this
        have hxf := fit_el HFT.out HNF.out _ hx
        have HEND := Lib.hid (fun hm => parts_end HNF.out hL (r := r) hm hxl)
        have HSTEP := Lib.hid (fun hm => parts_step hL (r := r) hm)
        have HLT := Lib.hid (fun hm => parts_len_lt hL (r := r) hm)
        generalize el L (i0 + j) = x at *
        have hx1 : wr.cell? ⟨g, i0 * 2 + j * 2, none⟩ = some (.int .u64 (x.1 : Int)) := by
          rw [World.cell?_of_block (w := W) (hS.2 g hgF), show i0 * 2 + j * 2 = 0 + (i0 + j) * 2 by omega]; exact hcc.1
        have hx2 : wr.cell? ⟨g, i0 * 2 + j * 2 + 1, none⟩ = some (.int .u64 (x.2 : Int)) := by
          rw [World.cell?_of_block (w := W) (hS.2 g hgF), show i0 * 2 + j * 2 + 1 = 0 + (i0 + j) * 2 + 1 by omega]; exact hcc.2
        have hr1 := (HBR.out.same hS hbrF).cell 0
        have hr2 := (HBR.out.same hS hbrF).cell 1
        simp at hr1 hr2
        have hbrl := (HBR.out.same hS hbrF).lt
        have HM := Lib.hid (fun W => met_any x r W)
        have hyf := met_fit hxf hr
        generalize met x r = y at HM HEND HSTEP HLT hyf
        clear hcc hx hxl
        gi_wp2_with fail
        refine ⟨trivial, (fun h => by cases h), ?_⟩
        refine (callsIn_wide.2 (HM.out _)).mono ?_
        rintro e w2 ⟨rfl, hb2⟩
        have hb2' : Below wr.heap.size wr w2 := ((Below.refl _ wr).alloc (Nat.le_refl _) _).trans (hb2.mono (by simp))
        have hb4 : Below wr.heap.size wr ((w2.alloc (rb y 86)).alloc (rb y 86)) := (hb2'.alloc hb2'.size _).alloc (by simp; have := hb2'.size; omega) _
        have hj4 := hJ _ _ _ _ hjj (Below.grow0 hb4) (fun r e => by cases e)
        have hS4 := hS.trans (Same.low hb4 (fun k hk => Nat.lt_of_lt_of_le (HFW.out k hk) hS.1))
        have hpl : (rvals pre).length = pre.length := by simp [rvals]
        clear hb2 hb2' hx1 hx2 hr1 hr2 hb4
        gi_wp2_with fail
        refine ⟨trivial, (fun h => by cases h), ?_⟩
        refine (callsIn_wide.2 (empty_any y _)).mono ?_
        rintro e w4 ⟨rfl, rfl⟩
        by_cases hyn : y.1 < y.2
        · have hd : decide (y.2 ≤ y.1) = false := by simp; omega
          obtain ⟨fn, tmps, assign, body, hyy, hR⟩ := hY pre ⟨y, hyn, hyf⟩ _ hj4 (by have := HLT.out hyn; rw [← hpre, hpl] at this; exact this)
          dsimp only [encG] at hyy
          have HYN := Lib.hid hyn
          have hpost : rvals (pre ++ [⟨y, hyn, hyf⟩]) = parts (L.take (i0 + (j + 1))) r := by
            rw [← Nat.add_assoc, HSTEP.out hyn, ← hpre]; simp [rvals]
          have HPO := Lib.hid hpost
          generalize (⟨y, hyn, hyf⟩ : GR) = yg at hR HPO
          clear hpost hyn
          gi_wp2_with fail
          refine ⟨(fun h => by cases h), (roundIn_any hR).mono ?_⟩
          rintro e W5 (⟨rfl, hj5, hk5⟩ | ⟨rfl, hjx5⟩)
          · gi_wp2_with fail
            go_roundw
            case rel => exact ⟨j + 1, pre ++ [yg], by go_num, by omega, HPO.out, hj5, hS4.trans (hK _ _ hk5)⟩
            case measure => simp [intOf]; omega
          · gi_wp2_with fail
            refine bodyPost_ret (results_none rfl _ _ _) rfl ?_
            exact ⟨⟨_, rfl⟩, .inr ⟨pre ++ [yg], by rw [HPO.out]; exact parts_pref _, hjx5⟩⟩
        · have hd : decide (y.2 ≤ y.1) = true := by simp; omega
          have HE := Lib.hid (HEND.out hyn)
          clear hyn
          gi_wp2_with fail
          refine ⟨fun _ h => (by cases h), ?_⟩
          gi_wp2_with fail
          refine bodyPost_ret (results_none rfl _ _ _) rfl ?_
          exact ⟨⟨_, rfl⟩, .inl ⟨pre, by rw [hpre, HE.out], hj4⟩⟩
      · have hdt : decide (j < k - i0) = false := by simpa using hlt
        have hend : i0 + j = k := by omega
        have HE := Lib.hid hend
        clear hend
        gi_wp2_with fail
        go_end0
        exact ⟨⟨_, rfl⟩, .inl ⟨pre, by rw [hpre, HE.out, ← HKl.out, List.take_length], hjj⟩⟩
theorem within_none (n : Nat) (r : Rn) (bs br : Nat) (w : World) (hbs : Own w bs 135 [.pointer none]) (Kp : World → World → Prop) :
    SeqStopsK Fence.wide n Tryz.prog 232 #[.pointer (some ⟨bs, 0, none⟩), .pointer (some ⟨br, 0, none⟩)] encG Kp (fun xs => rvals xs = parts [] r) (fun pre => rvals pre <+: parts [] r) (parts [] r).length w := by
  intro l J Jx W hW hJ hJx hY h0
  have c1 := (hbs.below hW hbs.lt).cell 0
  simp at c1
  refine callsIn_of_wp Tryz.func232 rfl trivial ?_ rfl
  simp only [Tryz.ntmps232, List.size_toArray, List.length_cons, List.length_nil, Nat.reduceAdd, Nat.reduceSub, Array.replicate_succ, Array.replicate_zero, List.push_toArray, List.append_toArray, List.nil_append, List.cons_append]
  gi_wp2_with fail
  refine bodyPost_ret (results_none rfl _ _ _) rfl ?_
  exact ⟨⟨_, rfl⟩, .inl ⟨[], rfl, h0⟩⟩
theorem within_stops (n : Nat) (sp : Option Addr) (L : List Rn) (r : Rn) (bs br : Nat) (w : World) (FS : List Nat) (hs : SetV w (.pointer sp) FS L) (hbs : Own w bs 135 [.pointer sp]) (hbr : Own w br 86 [.int .u64 (r.1 : Int), .int .u64 (r.2 : Int)]) (hFS : ∀ k ∈ FS, k < w.heap.size) (hr : Fit r)
    (Kp : World → World → Prop) (hK : ∀ W W', Kp W W' → Same (bs :: br :: FS) W W') :
    SeqStopsK Fence.wide n Tryz.prog 232 #[.pointer (some ⟨bs, 0, none⟩), .pointer (some ⟨br, 0, none⟩)] encG Kp (fun xs => rvals xs = parts L r) (fun pre => rvals pre <+: parts L r) (parts L r).length w := by
  rcases hs with ⟨h, rfl⟩ | ⟨p, v, h, hst, hp, hg⟩
  · injection h with h
    subst h
    exact within_none n r bs br w hbs Kp
  · injection h with h
    subst h
    refine within_some n p v L r bs br w (bs :: br :: FS) hst (by simp [hp]) (fun g h => by simp [hg g h]) hbs hbr (by simp) (by simp) (fun k hk => ?_) hr Kp hK
    simp only [List.mem_cons] at hk
    rcases hk with rfl | rfl | hk
    · exact hbs.lt
    · exact hbr.lt
    · exact hFS k hk
attribute [local go_sem] Oper.semAt_some
theorem below_row {B n₀ : Nat} {w X Y : World} {row : Option Nat} (hb : Below n₀ w X) (hg : X.grownBy Y row) (hr : ∀ r, row = some r → B ≤ r ∧ ∃ o : Obj, X.heap[r]? = some o ∧ o.isCells = false) (hn : n₀ ≤ B) (hX : n₀ ≤ w.heap.size) : Below n₀ w Y :=
  hb.grown hg (Nat.le_trans hX hb.size) fun k e => Nat.le_trans hn (hr k e).1
theorem same_set {FS : List Nat} {b : Nat} (hb : b ∉ FS) (w : World) (u : Value) : Same FS w (w.setCell ⟨b, 0, none⟩ u) :=
  ⟨by rw [set_size]; exact Nat.le_refl _, fun k hk => Below.heap_setCell w ⟨b, 0, none⟩ u k (fun e => hb (by rw [show b = k from e.symm]; exact hk))⟩
def cntW (xs : List GR) : Int := ((cnt (rvals xs) % 18446744073709551616 : Nat) : Int)
theorem cnt_append (A B : List Rn) : cnt (A ++ B) = cnt A + cnt B := by
  induction A with
  | nil => simp [cnt]
  | cons r A ih => simp [cnt, ih]; omega
theorem cntW_snoc (xs : List GR) (x : GR) : IntKind.u64.wrap (cntW xs + ((x.1.2 - x.1.1 : Nat) : Int)) = cntW (xs ++ [x]) := by
  have e : rvals (xs ++ [x]) = rvals xs ++ [x.1] := by simp [rvals]
  unfold cntW
  rw [e, cnt_append, IntKind.wrap_u64]
  simp only [cnt]
  omega
theorem lay4 (w : World) (a b c d : Obj) : Below w.heap.size w ((((w.alloc a).alloc b).alloc c).alloc d) := (below3 w a b c).alloc (by simp; omega) _
theorem SetV.kept {w w' : World} {sp : Value} {FS : List Nat} {L : List Rn} (h : SetV w sp FS L) (hb : Chg [] w w') : SetV w' sp FS L := by
  rcases h with h | ⟨p, v, h1, h2, h3, h4⟩
  · exact .inl h
  · exact .inr ⟨p, v, h1, h2.kept hb, h3, h4⟩
set_option maxRecDepth 100000 in
set_option maxHeartbeats 2000000 in
theorem count_any (sp : Option Addr) (L : List Rn) (r : Rn) (w : World) (FS : List Nat) (hs : SetV w (.pointer sp) FS L) (hFS : ∀ k ∈ FS, k < w.heap.size) (hr : Fit r) (hc : cnt (parts L r) < 18446744073709551616) :
    Calls Tryz.prog 142 #[.pointer sp, rv r] w fun e w' => e = .returned (.int .u64 ((cnt (parts L r) : Nat) : Int)) ∧ Below w.heap.size w w' := by
  refine (callsIn_wide (n := 5)).1 ?_
  refine callsIn_of_wp_marks Tryz.func142 rfl trivial ?_ rfl
  simp only [Tryz.ntmps142, List.size_toArray, List.length_cons, List.length_nil, Nat.reduceAdd, Nat.reduceSub, Array.replicate_succ, Array.replicate_zero, List.push_toArray, List.append_toArray, List.nil_append, List.cons_append]
  gi_wp2_with fail
  refine ⟨trivial, ?_⟩
  refine (callsIn_wide.2 (within_any sp r _)).mono ?_
  rintro e w1 ⟨rfl, rfl⟩
  gi_wp2_with fail
  obtain ⟨W0, hW0⟩ : ∃ W0, ((((w.alloc (rb r 86)).alloc (.cells #[.int .u64 0] 37)).alloc (.cells #[.pointer sp] 135)).alloc (rb r 86)) = W0 := ⟨_, rfl⟩
  have hs0 : W0.heap.size = w.heap.size + 4 := by rw [← hW0]; simp
  have hB0 : Below w.heap.size w W0 := by rw [← hW0]; exact lay4 _ _ _ _ _
  have hoN : Own W0 (w.heap.size + 1) 37 [.int .u64 0] := by
    rw [← hW0]
    have := ((Own.new (w.alloc (rb r 86)) 37 [.int .u64 0]).alloc (.cells #[.pointer sp] 135)).alloc (rb r 86)
    rwa [World.size_alloc] at this
  have hobs : Own W0 (w.heap.size + 1 + 1) 135 [.pointer sp] := by
    rw [← hW0]
    have := (Own.new ((w.alloc (rb r 86)).alloc (.cells #[.int .u64 0] 37)) 135 [.pointer sp]).alloc (rb r 86)
    rwa [World.size_alloc, World.size_alloc] at this
  have hobr : Own W0 (w.heap.size + 1 + 1 + 1) 86 [.int .u64 (r.1 : Int), .int .u64 (r.2 : Int)] := by
    rw [← hW0]
    have := Own.new (((w.alloc (rb r 86)).alloc (.cells #[.int .u64 0] 37)).alloc (.cells #[.pointer sp] 135)) 86 [.int .u64 (r.1 : Int), .int .u64 (r.2 : Int)]
    rwa [World.size_alloc, World.size_alloc, World.size_alloc] at this
  have hW0' : ((((w.alloc (.cells #[.int .u64 (r.1 : Int), .int .u64 (r.2 : Int)] 86)).alloc (.cells #[.int .u64 0] 37)).alloc (.cells #[.pointer sp] 135)).alloc (.cells #[.int .u64 (r.1 : Int), .int .u64 (r.2 : Int)] 86)) = W0 := hW0
  rw [hW0']
  clear hW0 hW0'
  have HS0 := Lib.hid hs0
  have hFB : ∀ k ∈ (w.heap.size + 1 + 1) :: (w.heap.size + 1 + 1 + 1) :: FS, k < W0.heap.size := by
    intro k hk
    simp only [List.mem_cons] at hk
    rcases hk with rfl | rfl | hk
    · omega
    · omega
    · have := hFS k hk; omega
  have hnm : w.heap.size + 1 ∉ (w.heap.size + 1 + 1) :: (w.heap.size + 1 + 1 + 1) :: FS := by
    intro hk
    simp only [List.mem_cons] at hk
    rcases hk with hk | hk | hk
    · omega
    · omega
    · have := hFS _ hk; omega
  have hseq := within_stops 4 sp L r (w.heap.size + 1 + 1) (w.heap.size + 1 + 1 + 1) W0 FS (hs.kept (low_chg hB0)) hobs hobr (fun k hk => hFB k (by simp [hk])) hr (Same ((w.heap.size + 1 + 1) :: (w.heap.size + 1 + 1 + 1) :: FS)) (fun _ _ h => h)
  have HSEQ := Lib.hid hseq
  have HFB := Lib.hid hFB
  clear hseq hs hFS hs0 hFB
  refine wpIn_rangeFunc_ownH rfl (by omega) (gf := 232) (lb := #[.pointer (some ⟨w.heap.size + 1 + 1, 0, none⟩), .pointer (some ⟨w.heap.size + 1 + 1 + 1, 0, none⟩)]) rfl trivial (enters_of Tryz.func232 (by kernel_rfl) rfl) HSEQ.out
    (fun h k => h.trans k) (same_put HFB.out) (Below.refl _ _) (fun _ => rfl)
    (fun xs W => Own W (w.heap.size + 1) 37 [.int .u64 (cntW xs)] ∧ Below w.heap.size w W ∧ W0.heap.size ≤ W.heap.size) (fun _ _ _ => False) ?hI ?hIx ?h0
    (fun x a' W => ∃ B2, a' = { tmps := #[.pointer sp, rv r, undef, .pointer (some ⟨w.heap.size, 0, none⟩), .int .u64 0, .pointer (some ⟨w.heap.size + 1, 0, none⟩), .pointer (some ⟨B2, 0, none⟩), .pointer sp, rv r, .func (.func 232) #[] #[.pointer (some ⟨w.heap.size + 1 + 1, 0, none⟩), .pointer (some ⟨w.heap.size + 1 + 1 + 1, 0, none⟩)], rv x.1, undef, undef, undef, undef, undef], defers := [] } ∧ w.heap.size + 1 < B2 ∧ Own W B2 86 [.int .u64 (x.1.1 : Int), .int .u64 (x.1.2 : Int)]) ?hAx ?assign ?body ?done ?stop
  case hI =>
    rintro xs X Y row ⟨h1, h2, h4⟩ hg hr
    exact ⟨own_kept h1 hg (fun r e => (hr r e).2), below_row h2 hg hr (by have := HS0.out; omega) (Nat.le_refl _), Nat.le_trans h4 hg.size⟩
  case hIx => exact fun _ _ _ _ _ h _ _ => h.elim
  case h0 => exact ⟨hoN, hB0, Nat.le_refl _⟩
  case hAx =>
    rintro x a' _ X Y row ⟨B2, h1, h2, h3⟩ hg hr
    exact ⟨B2, h1, h2, own_kept h3 hg (fun r e => (hr r e).2)⟩
  case assign =>
    rintro l pre x W K ⟨h1, h2, h4⟩ hK
    unfold encG
    obtain ⟨⟨x1, x2⟩, hx⟩ := x
    have HK := Lib.hid hK
    clear hK
    gi_wp2_with fail
    have hlt := h1.lt
    exact HK.out _ _ ((KeepsOthers.alloc _ _).from _) (Same.low ((Below.refl _ W).alloc (Nat.le_refl _) _) (fun k hk => Nat.lt_of_lt_of_le (HFB.out k hk) h4)) ⟨h1.alloc _, h2.alloc h2.size _, by simp; omega⟩ ⟨_, rfl, by have := HS0.out; omega, Own.new W _ [.int .u64 (x1 : Int), .int .u64 (x2 : Int)]⟩
  case body =>
    rintro l pre x a' W hl hlr ⟨h1, h2, h4⟩ ⟨B2, rfl, hB2, h3⟩ hlt
    have HLN := Lib.hid (fun W => length_any x.1 x.2.2 (Nat.le_of_lt x.2.1) W)
    have HSN := Lib.hid (cntW_snoc pre x)
    have hx1 := h3.cell 0
    have hx2 := h3.cell 1
    have hn1 := h1.cell 0
    have hf1 := h1.frozen 0
    simp at hx1 hx2 hn1
    obtain ⟨⟨x1, x2⟩, hx⟩ := x
    dsimp only at hx1 hx2 HLN HSN h3
    obtain ⟨d, HD⟩ : ∃ d, Hid (x2 - x1 = d) := ⟨_, Lib.hid rfl⟩
    rw [HD.out] at HLN HSN
    obtain ⟨s0, HS1⟩ : ∃ s0, Hid (cntW pre = s0) := ⟨_, Lib.hid rfl⟩
    rw [HS1.out] at hn1 HSN
    have hN := h1.lt
    have hmx : Tryz.prog.follows .mixedOrders = true := by kernel_rfl
    gi_wp2_with fail
    gi_region_with_o (refine ⟨trivial, ?_⟩; gi_at_call 150; refine (CallsIn.inRound l (callsIn_wide.2 (HLN.out _))).mono ?_; rintro e w7 ⟨rfl, hb7⟩; have hn7 := (hb7.cell (p := ⟨w.heap.size + 1, 0, none⟩) hN).trans hn1; have hf7 := (hb7.frozen (p := ⟨w.heap.size + 1, 0, none⟩) hN).trans hf1)
    all_goals
      have hb : Below W.heap.size W w7 := (Below.refl _ W).drew.trans hb7
      refine ⟨(keepsFrom_below hb).trans ((KeepsOthers.setCell _ _ _).from _), (Same.low hb (fun k hk => Nat.lt_of_lt_of_le (HFB.out k hk) h4)).trans (same_set hnm _ _), ?_, (h2.trans (hb.mono h2.size)).setCell (p := ⟨w.heap.size + 1, 0, none⟩) (by simp) _, by rw [set_size]; exact Nat.le_trans h4 hb.size⟩
      rw [HSN.out]
      exact (h1.below hb hN).set 0 _
  case done =>
    rintro D xs W hD hS ⟨h1, h2, h4⟩ hK
    have hn1 := h1.cell 0
    simp at hn1
    have hx : cntW xs = ((cnt (parts L r) : Nat) : Int) := by unfold cntW; rw [hS]; omega
    rw [hx] at hn1
    have HX := Lib.hid hx
    clear hx
    gi_wp2_with fail
    refine ⟨by simp, .inl ⟨_, _, rfl, run_takeDeferred hK, ?_⟩⟩
    exact ⟨_, results_tmp rfl _ _ _, rfl, h2.grown (grownBy_putObj' W D (.deferred none)) h2.size (fun k e => by cases e; have := HS0.out; omega)⟩
  case stop => exact fun D c pre W _ _ h _ => h.elim
attribute [local go_sem] Oper.semAt_some
def frm (L : List Rn) (n : Nat) : Rn × Bool := match parts L (n, top64) with | [] => ((0, 0), false) | r :: _ => (r, true)
theorem frm_nil {L : List Rn} {n : Nat} (h : parts L (n, top64) = []) : frm L n = ((0, 0), false) := by unfold frm; rw [h]
theorem frm_cons {L : List Rn} {n : Nat} {r : Rn} {M : List Rn} (h : parts L (n, top64) = r :: M) : frm L n = (r, true) := by unfold frm; rw [h]
set_option maxRecDepth 100000 in
set_option maxHeartbeats 2000000 in
theorem from_any (sp : Option Addr) (L : List Rn) (n : Nat) (w : World) (FS : List Nat) (hs : SetV w (.pointer sp) FS L) (hFS : ∀ k ∈ FS, k < w.heap.size) (hn : n < 18446744073709551616) :
    Calls Tryz.prog 178 #[.pointer sp, .int .u64 n] w fun e w' => e = .returned (.tuple #[rv (frm L n).1, .bool (frm L n).2]) ∧ Below w.heap.size w w' := by
  have hr : Fit (n, top64) := ⟨hn, by simp [top64]⟩
  have hwi := fun W => within_any sp (n, top64) W
  refine (callsIn_wide (n := 5)).1 ?_
  refine callsIn_of_wp_marks Tryz.func178 rfl trivial ?_ rfl
  simp only [Tryz.ntmps178, List.size_toArray, List.length_cons, List.length_nil, Nat.reduceAdd, Nat.reduceSub, Array.replicate_succ, Array.replicate_zero, List.push_toArray, List.append_toArray, List.nil_append, List.cons_append]
  gi_wp2_with fail
  refine ⟨trivial, ?_⟩
  refine (callsIn_wide.2 (hwi _)).mono ?_
  rintro e w1 ⟨rfl, rfl⟩
  gi_wp2_with fail
  obtain ⟨W0, hW0⟩ : ∃ W0, ((((w.alloc (rb (0, 0) 86)).alloc (.cells #[.bool false] 4)).alloc (.cells #[.pointer sp] 135)).alloc (rb (n, top64) 86)) = W0 := ⟨_, rfl⟩
  have hs0 : W0.heap.size = w.heap.size + 4 := by rw [← hW0]; simp
  have hB0 : Below w.heap.size w W0 := by rw [← hW0]; exact lay4 _ _ _ _ _
  have hoR : Own W0 w.heap.size 86 [.int .u64 0, .int .u64 0] := by
    rw [← hW0]
    exact (((Own.new w 86 [.int .u64 0, .int .u64 0]).alloc (.cells #[.bool false] 4)).alloc (.cells #[.pointer sp] 135)).alloc (rb (n, top64) 86)
  have hoB : Own W0 (w.heap.size + 1) 4 [.bool false] := by
    rw [← hW0]
    have := ((Own.new (w.alloc (rb (0, 0) 86)) 4 [.bool false]).alloc (.cells #[.pointer sp] 135)).alloc (rb (n, top64) 86)
    rwa [World.size_alloc] at this
  have hobs : Own W0 (w.heap.size + 1 + 1) 135 [.pointer sp] := by
    rw [← hW0]
    have := (Own.new ((w.alloc (rb (0, 0) 86)).alloc (.cells #[.bool false] 4)) 135 [.pointer sp]).alloc (rb (n, top64) 86)
    rwa [World.size_alloc, World.size_alloc] at this
  have hobr : Own W0 (w.heap.size + 1 + 1 + 1) 86 [.int .u64 (n : Int), .int .u64 (top64 : Int)] := by
    rw [← hW0]
    have := Own.new (((w.alloc (rb (0, 0) 86)).alloc (.cells #[.bool false] 4)).alloc (.cells #[.pointer sp] 135)) 86 [.int .u64 (n : Int), .int .u64 (top64 : Int)]
    rwa [World.size_alloc, World.size_alloc, World.size_alloc] at this
  have hW0' : ((((w.alloc (.cells #[.int .u64 0, .int .u64 0] 86)).alloc (.cells #[.bool false] 4)).alloc (.cells #[.pointer sp] 135)).alloc (rb (n, top64) 86)) = W0 := hW0
  rw [hW0']
  clear hW0 hW0'
  have HS0 := Lib.hid hs0
  have hFB : ∀ k ∈ (w.heap.size + 1 + 1) :: (w.heap.size + 1 + 1 + 1) :: FS, k < W0.heap.size := by
    intro k hk
    simp only [List.mem_cons] at hk
    rcases hk with rfl | rfl | hk
    · omega
    · omega
    · have := hFS k hk; omega
  have hseq := within_stops 4 sp L (n, top64) (w.heap.size + 1 + 1) (w.heap.size + 1 + 1 + 1) W0 FS (hs.kept (low_chg hB0)) hobs hobr (fun k hk => hFB k (by simp [hk])) hr (Same ((w.heap.size + 1 + 1) :: (w.heap.size + 1 + 1 + 1) :: FS)) (fun _ _ h => h)
  have HSEQ := Lib.hid hseq
  have HFB := Lib.hid hFB
  clear hseq hs hFS hs0 hFB hwi
  refine wpIn_rangeFunc_ownH rfl (by omega) (gf := 232) (lb := #[.pointer (some ⟨w.heap.size + 1 + 1, 0, none⟩), .pointer (some ⟨w.heap.size + 1 + 1 + 1, 0, none⟩)]) rfl trivial (enters_of Tryz.func232 (by kernel_rfl) rfl) HSEQ.out
    (fun h k => h.trans k) (same_put HFB.out) (Below.refl _ _) (fun _ => rfl)
    (fun xs W => xs = [] ∧ Own W w.heap.size 86 [.int .u64 0, .int .u64 0] ∧ Own W (w.heap.size + 1) 4 [.bool false] ∧ Below w.heap.size w W ∧ W0.heap.size ≤ W.heap.size)
    (fun c xs W => c = .ret ∧ ∃ x : GR, xs = [x] ∧ Own W w.heap.size 86 [.int .u64 (x.1.1 : Int), .int .u64 (x.1.2 : Int)] ∧ Own W (w.heap.size + 1) 4 [.bool true] ∧ Below w.heap.size w W) ?hI ?hIx ?h0
    (fun x a' W => ∃ B2, a' = { tmps := #[.pointer sp, .int .u64 n, undef, undef, .pointer (some ⟨w.heap.size, 0, none⟩), .pointer (some ⟨w.heap.size + 1, 0, none⟩), .pointer (some ⟨B2, 0, none⟩), .pointer sp, .int .u64 n, .agg #[.int .u64 n, .int .u64 18446744073709551615], .func (.func 232) #[] #[.pointer (some ⟨w.heap.size + 1 + 1, 0, none⟩), .pointer (some ⟨w.heap.size + 1 + 1 + 1, 0, none⟩)], rv x.1, undef, undef], defers := [] } ∧ w.heap.size + 1 < B2 ∧ Own W B2 86 [.int .u64 (x.1.1 : Int), .int .u64 (x.1.2 : Int)]) ?hAx ?assign ?body ?done ?stop
  case hI =>
    rintro xs X Y row ⟨h0, h1, h1b, h2, h4⟩ hg hr
    exact ⟨h0, own_kept h1 hg (fun r e => (hr r e).2), own_kept h1b hg (fun r e => (hr r e).2), below_row h2 hg hr (by have := HS0.out; omega) (Nat.le_refl _), Nat.le_trans h4 hg.size⟩
  case hIx =>
    rintro c xs X Y row ⟨h0, x, hx, h1, h1b, h2⟩ hg hr
    exact ⟨h0, x, hx, own_kept h1 hg (fun r e => (hr r e).2), own_kept h1b hg (fun r e => (hr r e).2), below_row h2 hg hr (by have := HS0.out; omega) (Nat.le_refl _)⟩
  case h0 => exact ⟨rfl, hoR, hoB, hB0, Nat.le_refl _⟩
  case hAx =>
    rintro x a' _ X Y row ⟨B2, h1, h2, h3⟩ hg hr
    exact ⟨B2, h1, h2, own_kept h3 hg (fun r e => (hr r e).2)⟩
  case assign =>
    rintro l pre x W K ⟨h0, h1, h1b, h2, h4⟩ hK
    unfold encG
    obtain ⟨⟨x1, x2⟩, hx⟩ := x
    have HK := Lib.hid hK
    clear hK
    gi_wp2_with fail
    have hlt := h1b.lt
    exact HK.out _ _ ((KeepsOthers.alloc _ _).from _) (Same.low ((Below.refl _ W).alloc (Nat.le_refl _) _) (fun k hk => Nat.lt_of_lt_of_le (HFB.out k hk) h4)) ⟨h0, h1.alloc _, h1b.alloc _, h2.alloc h2.size _, by simp; omega⟩ ⟨_, rfl, by have := HS0.out; omega, Own.new W _ [.int .u64 (x1 : Int), .int .u64 (x2 : Int)]⟩
  case body =>
    rintro l pre x a' W hl hlr ⟨h0, h1, h1b, h2, h4⟩ ⟨B2, rfl, hB2, h3⟩ hlt
    have hx1 := h3.cell 0
    have hx2 := h3.cell 1
    have hr1 := h1.cell 0
    have hr2 := h1.cell 1
    have hrb := h1b.cell 0
    have hf1 := h1.frozen 0
    have hf2 := h1.frozen 1
    have hf3 := h1b.frozen 0
    simp at hx1 hx2 hr1 hr2 hrb
    subst h0
    have HG : Hid (∃ y : GR, y = x) := Lib.hid ⟨x, rfl⟩
    obtain ⟨⟨x1, x2⟩, hx⟩ := x
    dsimp only at hx1 hx2 h3
    gi_wp2_with fail
    refine ⟨((KeepsOthers.setCell _ _ _).from _).trans (((KeepsOthers.setCell _ _ _).from _).trans ((KeepsOthers.setCell _ _ _).from _)), rfl, ⟨(x1, x2), hx⟩, rfl, ?_, ?_, ?_⟩
    · exact ((h1.set 0 (.int .u64 (x1 : Int))).set 1 (.int .u64 (x2 : Int))).far (p := ⟨w.heap.size + 1, 0, none⟩) (by simp) _
    · exact ((h1b.far (p := ⟨w.heap.size, 0, none⟩) (by simp) _).far (p := ⟨w.heap.size, 1, none⟩) (by simp) _).set 0 (.bool true)
    · exact ((h2.setCell (p := ⟨w.heap.size, 0, none⟩) (Nat.le_refl _) _).setCell (p := ⟨w.heap.size, 1, none⟩) (Nat.le_refl _) _).setCell (p := ⟨w.heap.size + 1, 0, none⟩) (by simp) _
  case done =>
    rintro D xs W hD hS ⟨h0, h1, h1b, h2, h4⟩ hK
    subst h0
    have HFR := Lib.hid (frm_nil hS.symm)
    have hr1 := h1.cell 0
    have hr2 := h1.cell 1
    have hrb := h1b.cell 0
    have hf1 := h1.frozen 0
    have hf2 := h1.frozen 1
    have hf3 := h1b.frozen 0
    simp at hr1 hr2 hrb
    dsimp only
    gi_wp2_with fail
    have hW1 : Own (((W.setCell ⟨w.heap.size, 0, none⟩ (.int .u64 0)).setCell ⟨w.heap.size, 1, none⟩ (.int .u64 0)).setCell ⟨w.heap.size + 1, 0, none⟩ (.bool false)) w.heap.size 86 [.int .u64 0, .int .u64 0] := ((h1.set 0 (.int .u64 0)).set 1 (.int .u64 0)).far (p := ⟨w.heap.size + 1, 0, none⟩) (by simp) _
    have hW2 : Own (((W.setCell ⟨w.heap.size, 0, none⟩ (.int .u64 0)).setCell ⟨w.heap.size, 1, none⟩ (.int .u64 0)).setCell ⟨w.heap.size + 1, 0, none⟩ (.bool false)) (w.heap.size + 1) 4 [.bool false] := ((h1b.far (p := ⟨w.heap.size, 0, none⟩) (by simp) _).far (p := ⟨w.heap.size, 1, none⟩) (by simp) _).set 0 (.bool false)
    have hb2 := ((h2.setCell (p := ⟨w.heap.size, 0, none⟩) (Nat.le_refl _) (.int .u64 0)).setCell (p := ⟨w.heap.size, 1, none⟩) (Nat.le_refl _) (.int .u64 0)).setCell (p := ⟨w.heap.size + 1, 0, none⟩) (by simp) (.bool false)
    have hK2 := (((KeepsOthers.setCell W ⟨w.heap.size, 0, none⟩ (.int .u64 0)).trans (KeepsOthers.setCell _ ⟨w.heap.size, 1, none⟩ (.int .u64 0))).trans (KeepsOthers.setCell _ ⟨w.heap.size + 1, 0, none⟩ (.bool false))).same D _ hK rfl
    generalize ((W.setCell ⟨w.heap.size, 0, none⟩ (.int .u64 0)).setCell ⟨w.heap.size, 1, none⟩ (.int .u64 0)).setCell ⟨w.heap.size + 1, 0, none⟩ (.bool false) = W2 at *
    have c1 := (own_kept hW1 (grownBy_putObj' W2 D (.deferred none)) (fun r e => by cases e; exact ⟨_, hK2, rfl⟩)).cell 0
    have c2 := (own_kept hW1 (grownBy_putObj' W2 D (.deferred none)) (fun r e => by cases e; exact ⟨_, hK2, rfl⟩)).cell 1
    have c3 := (own_kept hW2 (grownBy_putObj' W2 D (.deferred none)) (fun r e => by cases e; exact ⟨_, hK2, rfl⟩)).cell 0
    simp at c1 c2 c3
    refine ⟨by simp, .inl ⟨_, _, rfl, run_takeDeferred hK2, ?_⟩⟩
    exact ⟨.tuple #[rv (0, 0), .bool false], by simp [results, Tryz.f178, go_sem, c1, c2, c3], by rw [HFR.out], hb2.grown (grownBy_putObj' W2 D (.deferred none)) hb2.size (fun k e => by cases e; have := HS0.out; omega)⟩
  case stop =>
    rintro D c pre W hD hS ⟨rfl, x, rfl, h1, h1b, h2⟩ hK
    obtain ⟨t, ht⟩ := hS
    have HFR := Lib.hid (frm_cons (L := L) (n := n) (r := x.1) (M := t) ht.symm)
    have c1 := (own_kept h1 (grownBy_putObj' W D (.deferred none)) (fun r e => by cases e; exact ⟨_, hK, rfl⟩)).cell 0
    have c2 := (own_kept h1 (grownBy_putObj' W D (.deferred none)) (fun r e => by cases e; exact ⟨_, hK, rfl⟩)).cell 1
    have c3 := (own_kept h1b (grownBy_putObj' W D (.deferred none)) (fun r e => by cases e; exact ⟨_, hK, rfl⟩)).cell 0
    simp at c1 c2 c3
    clear ht
    dsimp only
    gi_wp2_with fail
    refine ⟨by simp, .inl ⟨_, _, rfl, run_takeDeferred hK, ?_⟩⟩
    exact ⟨.tuple #[rv x.1, .bool true], by simp [results, Tryz.f178, go_sem, c1, c2, c3], by rw [HFR.out], h2.grown (grownBy_putObj' W D (.deferred none)) h2.size (fun k e => by cases e; have := HS0.out; omega)⟩
theorem frm_mem {L : List Rn} (hN : NF L) {n : Nat} (hb : ∀ r ∈ L, r.2 ≤ top64) : mem L n = ((frm L n).2 && decide ((frm L n).1.1 = n)) := by
  rw [mem_head hN hb]
  unfold frm
  cases parts L (n, top64) <;> simp
section
variable (sp : Option Addr) (L : List Rn) (n : Nat) (w : World) (FS : List Nat)
theorem Has_any (hs : SetV w (.pointer sp) FS L) (hFS : ∀ k ∈ FS, k < w.heap.size) (hn : n < 18446744073709551616) (hN : NF L) (hb : ∀ r ∈ L, r.2 ≤ top64) :
    Calls Tryz.prog 121 #[.pointer sp, .int .u64 n] w fun e w' => e = .returned (.bool (mem L n)) ∧ Below w.heap.size w w' := by
  have hF := from_any sp L n w FS hs hFS hn
  rw [frm_mem hN hb]
  obtain ⟨y, b, hy⟩ : ∃ y b, frm L n = (y, b) := ⟨_, _, rfl⟩
  rw [hy] at hF ⊢
  have HF := Lib.hid hF
  clear hF hs hy hN hb hFS
  dsimp only at HF ⊢
  cases b with
  | false =>
    go_enter Tryz.func121, Tryz.ntmps121
    go_wp2_with (go_at_call 178; refine HF.out.mono ?_; rintro e w1 ⟨rfl, hb1⟩)
    go_ret
    exact ⟨rfl, hb1.alloc hb1.size _⟩
  | true =>
    by_cases h : y.1 = n
    · have h1 : ((y.1 : Int) == (n : Int)) = true := by simp; omega
      have h2 : decide (y.1 = n) = true := by simpa using h
      rw [h2]
      clear h h2
      go_enter Tryz.func121, Tryz.ntmps121
      go_wp2_with (go_at_call 178; refine HF.out.mono ?_; rintro e w1 ⟨rfl, hb1⟩)
      go_ret
      exact ⟨rfl, hb1.alloc hb1.size _⟩
    · have h1 : ((y.1 : Int) == (n : Int)) = false := by simp; omega
      have h2 : decide (y.1 = n) = false := by simpa using h
      rw [h2]
      clear h h2
      go_enter Tryz.func121, Tryz.ntmps121
      go_wp2_with (go_at_call 178; refine HF.out.mono ?_; rintro e w1 ⟨rfl, hb1⟩)
      go_ret
      exact ⟨rfl, hb1.alloc hb1.size _⟩
end
theorem rclone_empty (w : World) (a : Addr) (c : Nat) :
    Calls Tryz.prog 130 #[.slice (some a) 0 c] w fun e w' => ∃ v, e = .returned v ∧ Lr w' w.heap.size 86 v [] ∧ Below w.heap.size w w' := by
  have q22 : ∀ (w : World) (a : Option Addr) (n c n' c' : Nat), (binOp .eql 82 (.slice a n c) (.slice none n' c')).run Tryz.prog w = .ok (.bool a.isNone) w := fun w a n c n' c' => Lib.run_eql_slice_nil w _ _ a n c n' c' Tryz.underlying82
  have hrun : ∀ (ty : TypeId) (W : World), (Builtin.append_ #[82, 82] ty #[.slice (some ⟨W.heap.size, 0, none⟩) 0 0, .slice (some a) 0 c]).run Tryz.prog (W.alloc (.cells #[] 86)) = .ok (.slice (some ⟨W.heap.size, 0, none⟩) 0 0) (W.alloc (.cells #[] 86)) := by
    intro ty W
    obtain ⟨i0, hi0, hzz⟩ := Option.map_eq_some_iff.1 Tryz.infoR
    have hl : ∀ (x : Addr) W, (loadCells x 0).run Tryz.prog W = .ok #[] W := fun x W => by simpa using run_loadCells_list (P := Tryz.prog) W x [] (by simp)
    simp [Builtin.append_, run_underlying Tryz.underlying82, sizeOf, typeInfo, hi0, Builtin.lenOf, Builtin.firstCells, storeCells, hl]
  go_enter Tryz.func130, Tryz.ntmps130
  go_wp2_with (at_builtin; refine Lib.wpList_append_run _ rfl _ _ _ _ rfl _ _ rfl rfl _ _ (hrun _ _) ?_)
  go_ret
  exact ⟨_, rfl, Lr.lit w w.heap.size 86 [] (Nat.le_refl _) (by simp), (Below.refl _ _).alloc (Nat.le_refl _) _⟩
theorem rclone_any (w : World) (a : Option Addr) (c B : Nat) (L : List Rn) (hro : Ro w B a (rcs L)) (hl : L.length ≤ 4000000) :
    Calls Tryz.prog 130 #[.slice a L.length c] w fun e w' => ∃ v, e = .returned v ∧ Lr w' w.heap.size 86 v L ∧ Below w.heap.size w w' := by
  rcases a with _ | ⟨b, off, spot⟩
  · have h0 : L.length = 0 := by
      rcases hro with h | ⟨b, off, h, _⟩
      · have := congrArg List.length h; simp at this; omega
      · cases h
    obtain rfl : L = [] := List.eq_nil_of_length_eq_zero h0
    refine (AnyE.slices_Clone_nil cloneR 0 c w).mono fun e w' ⟨he, hw⟩ => ⟨_, he, Lr.nil _ _ _, by rw [hw]; exact Below.refl _ _⟩
  · obtain ⟨i0, hi0, hzz⟩ := Option.map_eq_some_iff.1 Tryz.infoR
    simp only [Prod.mk.injEq] at hzz
    obtain ⟨hz0, hzs, hzb⟩ := hzz
    rcases Nat.eq_zero_or_pos L.length with h0 | h0
    · obtain rfl : L = [] := List.eq_nil_of_length_eq_zero h0
      exact rclone_empty w _ c
    · obtain ⟨b', off', e, hb, hc⟩ := hro.at_ (by intro e; have e2 := congrArg List.length e; simp at e2; omega)
      cases e
      have := AnyE.slices_Clone cloneR i0 zR 2 16 hi0 hz0 hzs hzb rfl (by omega) sizeOfR b off L.length c (rcs L) w (by simp) (by unfold maxLen; omega) (by omega) (fun j u hu => by
        have hj := (List.getElem?_eq_some_iff.1 hu).1
        rw [hc j hj]
        simp [List.getD, hu]) (rcs_one L)
      refine Calls.mono (R' := _) this fun e w' ⟨v, he, hr, _, hb⟩ => ⟨v, he, hr, hb⟩
theorem Runs_some (w : World) (p : Nat) (v : Value) (L : List Rn) (hs : St w p v L) : Calls Tryz.prog 75 #[.pointer (some ⟨p, 0, none⟩)] w fun e w' => ∃ v, e = .returned v ∧ Lr w' w.heap.size 86 v L ∧ Below w.heap.size w w' := by
  obtain ⟨a, c, rfl, hro, _⟩ := hs.row.form
  have HC := Lib.hid (rclone_any w a c _ L hro (by have := hs.len; omega))
  have hc := hs.cell
  clear hs hro
  go_enter Tryz.func75, Tryz.ntmps75
  go_wp2_with (go_at_call 130; refine HC.out.mono ?_; rintro e w1 ⟨v, rfl, hr, hb⟩)
  go_ret
  exact ⟨v, rfl, hr, hb⟩
structure New (w : World) (B p : Nat) (v : Value) (L : List Rn) : Prop where
  st : St w p v L
  lowp : B ≤ p
  lowg : ∀ g, v.ownBlock = some g → B ≤ g
theorem New_any (w : World) : Calls Tryz.prog 82 #[] w fun e w' => e = .returned (.pointer (some ⟨w.heap.size, 0, none⟩)) ∧ w' = w.alloc (.cells #[.slice none 0 0] 199) := by
  go_enter Tryz.func82, Tryz.ntmps82
  go_wp2
  go_ret
  exact ⟨rfl, rfl⟩
theorem new_st (w : World) : New (w.alloc (.cells #[.slice none 0 0] 199)) w.heap.size w.heap.size (.slice none 0 0) [] :=
  ⟨⟨Own.new w _ _, Lr.nil _ _ _, trivial, by simp, by simp⟩, Nat.le_refl _, fun g h => by cases h⟩
theorem boxed_new {w w1 : World} {v : Value} {L : List Rn} (hr : Lr w1 w.heap.size 86 v L) (hb : Below w.heap.size w w1) (hN : NF L) (hf : ∀ r ∈ L, r.2 ≤ top64) (hl : L.length ≤ 1000000) :
    New (w1.alloc (.cells #[v] 199)) w.heap.size w1.heap.size v L :=
  ⟨⟨Own.new w1 _ _, (hr.alloc _).base (Nat.zero_le _), hN, hf, hl⟩, hb.size, fun g h => (hr.lt g h).1⟩
theorem Copy_some (w : World) (p : Nat) (v : Value) (L : List Rn) (hs : St w p v L) : Calls Tryz.prog 183 #[.pointer (some ⟨p, 0, none⟩)] w fun e w' => ∃ p' v', e = .returned (.pointer (some ⟨p', 0, none⟩)) ∧ New w' w.heap.size p' v' L ∧ Below w.heap.size w w' := by
  obtain ⟨a, c, rfl, hro, _⟩ := hs.row.form
  have HC := Lib.hid (rclone_any w a c _ L hro (by have := hs.len; omega))
  have hc := hs.cell
  have HS := Lib.hid hs
  clear hs hro
  go_enter Tryz.func183, Tryz.ntmps183
  go_wp2_with (go_at_call 130; refine HC.out.mono ?_; rintro e w1 ⟨v, rfl, hr, hb⟩; obtain ⟨a1, c1, rfl⟩ := hr.shape)
  go_ret
  exact ⟨_, _, rfl, boxed_new hr hb HS.out.nf HS.out.fit HS.out.len, hb.alloc hb.size _⟩
end Go.Proofs.YtmpajlpemabniaaGreat
