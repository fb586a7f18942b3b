/-
  dataOf of package cell where the bytes tell a cell, by its contract. No claim of its own.
-/
import Derived.Test.YteenlkmnadjnpaaGreatH14
import Derived.Deep.RegionHeld3
import Derived.IntWalk
namespace Go.Proofs.YteenlkmnadjnpaaGreat
open Go.RowKit Go.Deep
set_option linter.unusedVariables false
set_option linter.unusedSimpArgs false

theorem Ro.far {w : World} {B : Nat} {a : Option Addr} {vs : List Value} (h : Ro w B a vs) {p : Addr} {u : Value} (hp : ∀ ad, a = some ad → ad.block ≠ p.block) : Ro (w.setCell p u) B a vs := by
  rcases h with h | ⟨b, off, h1, h2, h3⟩
  · exact .inl h
  · refine .inr ⟨b, off, h1, h2, fun i hi => ?_⟩
    have hb := Below.heap_setCell w p u b (hp _ h1)
    rw [← h3 i hi]
    simp only [World.cell?, hb]
/-- a slice of Backs of the call's own -/
def Lb (w : World) (base : Nat) (v : Value) (L : List Bk) : Prop := w.ownsRow base 96 3 v L.length (bcs L)
theorem Lb.nil (w : World) (base : Nat) : Lb w base (.slice none 0 0) [] := World.ownsRow_nil w base _ 3
theorem Lb.qt {w w' : World} {base : Nat} {v : Value} {L : List Bk} (h : Lb w base v L) (k : Qt w w') : Lb w' base v L := by
  obtain ⟨n, rfl⟩ := k
  exact h
theorem Lb.alloc {w : World} {base : Nat} {v : Value} {L : List Bk} (h : Lb w base v L) (o : Obj) : Lb (w.alloc o) base v L := World.ownsRow.alloc h o
theorem Lb.below {w w' : World} {base B : Nat} {v : Value} {L : List Bk} (h : Lb w base v L) (hb : Below B w w') (hB : w.heap.size ≤ B) : Lb w' base v L := by
  unfold Lb at h ⊢
  refine World.ownsRow.kept (row := none) h ⟨hb.os, hb.tape, hb.output, hb.size, fun b hlt _ => hb.block b (by omega)⟩ ?_
  by_cases hv : v.ownBlock = none
  · exact .inl hv
  · exact .inr hv
theorem Lb.lt {w : World} {base : Nat} {v : Value} {L : List Bk} (h : Lb w base v L) : ∀ k, v.ownBlock = some k → base ≤ k ∧ k < w.heap.size := World.ownsRow.lt h
theorem Lb.form {w : World} {base : Nat} {v : Value} {L : List Bk} (h : Lb w base v L) : ∃ a c, v = .slice a L.length c ∧ Ro w w.heap.size a (bcs L) ∧ L.length ≤ c ∧ c ≤ maxLen := by
  unfold Lb at h
  rcases h.2 with ⟨rfl, h0⟩ | ⟨g, cap, cur, rfl, hb, hh, hle, hm, hrest⟩
  · have : L = [] := by simpa using h0
    subst this
    exact ⟨none, 0, rfl, .inl rfl, by simp, by decide⟩
  · refine ⟨some ⟨g, 0, none⟩, cap, rfl, .inr ⟨g, 0, rfl, ?_, fun i hi => ?_⟩, hle, hm⟩
    · exact (World.ownsRow.lt h g rfl).2
    · have := World.ownsRow.cellAt h i (by rw [bcs_length] at hi; exact hi)
      rw [Nat.zero_add, this]
      simp only [List.getD, List.getElem?_eq_getElem hi, Option.getD_some]
theorem Lb.far {w : World} {base : Nat} {v : Value} {L : List Bk} (h : Lb w base v L) {p : Addr} (hp : p.block < base) (u : Value) : Lb (w.setCell p u) base v L := by
  unfold Lb at h ⊢
  refine World.ownsRow.kept (row := some p.block) h ⟨rfl, rfl, rfl, by simp [World.setCell], fun b hlt hne => Below.heap_setCell w p u b (fun e => hne (by rw [e]))⟩ ?_
  by_cases hv : v.ownBlock = none
  · exact .inl hv
  · refine .inr (fun e => ?_)
    have := (World.ownsRow.lt h p.block e).1
    omega
theorem Tryz.info_back : (Tryz.prog.info? 96).map (fun i => (i.zero, i.size, i.bytes)) = some (some (.agg #[.int .i64 0, .int .u64 0, .int .u64 0]), 3, 24) := by kernel_rfl
theorem Lb.grown_below {B base : Nat} {a w w' : World} {v : Value} {L : List Bk} (h : Below B a w) (hl : Lb w base v L) (hg : w.grownBy w' v.ownBlock) (hB : B ≤ base) (hB2 : B ≤ w.heap.size) : Below B a w' :=
  ⟨hg.os.trans h.os, hg.tape.trans h.tape, hg.output.trans h.output, Nat.le_trans h.size hg.size, fun b hb => (hg.block b (by omega) (fun e => by have := (hl.lt b e.symm).1; omega)).trans (h.block b hb)⟩
/-- append of one Back at a step of a region that draws its order -/
theorem step_app3 {ops : Array Oper} {o : Oper} {a : Act} {w : World} {K : Act → World → Prop} {Q : Exit → Act → World → Prop} {E : Prop} (hgd : o.guard = none) (s x : Operand)
    (ho : o.op = .call { callee := .builtin .append, args := #[s, x], argTypes := #[30, 30] })
    (base : Nat) (v : Value) (L : List Bk) (hs : a.eval s = v) (hown : Lb w base v L) (g : Nat) (y : Bk) (t : TypeId) (hnew : Own w g t (bcs [y]))
    (hx : a.eval x = .slice (some ⟨g, 0, none⟩) 1 1) (hlen : L.length ≤ 1000000) (hbase : base ≤ w.heap.size)
    (h : ∀ v' w', Hid (Lb w' base v' (L ++ [y])) → w.grownBy w' v.ownBlock → K (a.put o.dst v') w') :
    if Region.wanted o (yielded ops a.tmps) = true then Oper.wp Tryz.prog o a w K Q else E := by
  have hw : Region.wanted o (yielded ops a.tmps) = true := by simp [Region.wanted, hgd]
  rw [if_pos hw]
  obtain ⟨i, hi, hzz⟩ := Option.map_eq_some_iff.1 Tryz.info_back
  simp only [Prod.mk.injEq] at hzz
  obtain ⟨hz, hsz, hby⟩ := hzz
  refine wp_append_own w s x 30 ho base 96 i _ 3 24 Tryz.underlying30 hi hz hsz hby rfl (by omega) v L.length (bcs L) hs hown ⟨g, 0, none⟩ 1 1 (bcs [y]) hx (by simp) (fun j u hu => ?_) (bcs_one _) (by unfold maxLen; omega) (by omega) hbase fun v' w' h2 h3 _ => h v' w' ?_ h3
  · rw [add_off, Nat.zero_add, hnew.cell j]; exact hu
  · show w'.ownsRow base 96 3 v' (L ++ [y]).length (bcs (L ++ [y]))
    rw [List.length_append, bcs_append]
    exact h2

theorem wrap_small2 (k : Nat) (h : k < 1000) : IntKind.i64.wrap (k : Int) = (k : Int) := IntWalk.i64_in _ (by omega)
theorem wrap_small (k : Nat) (h : k < 1000) : wrap64 (k : Int) = (k : Int) := by unfold wrap64; omega
/-- an address of blocks that are new since w -/
def Frs (w : World) (a : Option Addr) : Prop := ∀ ad, a = some ad → w.heap.size ≤ ad.block
/-- a cell that has been read out of bytes -/
def DcP (w : World) (x : Ce) (r : Value) (e : Ending) (w' : World) : Prop := ∃ a1 c1 a2 c2, e = .returned (.tuple #[cev x.k a1 x.d.length c1 a2 x.b.length c2, r]) ∧ Ro w' w'.heap.size a1 (u8s x.d) ∧ Ro w' w'.heap.size a2 (bcs x.b) ∧ Frs w a1 ∧ Frs w a2 ∧ Below w.heap.size w w'
/-- the same over letters -/
def DcQ (w : World) (sz cnt : Nat) (ds : List UInt8) (L : List Bk) (e : Ending) (w' : World) : Prop := ∃ a1 c1 a2 c2, e = .returned (.tuple #[cev 1 a1 sz c1 a2 cnt c2, .bool true]) ∧ Ro w' w'.heap.size a1 (u8s ds) ∧ Ro w' w'.heap.size a2 (bcs L) ∧ Frs w a1 ∧ Frs w a2 ∧ Below w.heap.size w w'
/-- the numbers behind the first one -/
def tl (vs : List Nat) (k : Nat) : List Bk := ((vs.drop 1).take k).map backN
theorem tl_step (vs : List Nat) (k : Nat) (h : k + 1 < vs.length) : tl vs (k + 1) = tl vs k ++ [backN (vs.getD (k + 1) 0)] := by
  unfold tl
  have h1 : k < (vs.drop 1).length := by rw [List.length_drop]; omega
  rw [List.take_succ_eq_append_getElem h1, List.map_append]
  have : (vs.drop 1)[k] = vs.getD (k + 1) 0 := by
    rw [List.getElem_drop]
    have h2 : 1 + k < vs.length := by omega
    simp only [List.getD]
    rw [show k + 1 = 1 + k by omega, List.getElem?_eq_getElem h2]
    rfl
  rw [this]
  rfl
theorem tl_length (vs : List Nat) (k : Nat) (h : k + 1 ≤ vs.length) : (tl vs k).length = k := by
  unfold tl
  rw [List.length_map, List.length_take, List.length_drop]
  omega

set_option maxHeartbeats 8000000 in
theorem data_yes (bs : List UInt8) (n : Nat) (a : Option Addr) (c B : Nat) (w : World) (hn : bs.length = n) (h : Ro w B a (u8s bs)) (hB : B ≤ w.heap.size) (hnc : n ≤ c) (hc : c ≤ 9223372036854775807) (hl : n ≤ 1000000) (x : Ce) (hx : IsDec bs x) :
    Calls Tryz.prog 142 #[.slice a n c] w (DcP w x (.bool true)) := by
  subst hn
  obtain ⟨h2, hnb, hsz, huo, rfl⟩ := hx
  have HG := Lib.hid (get_yes bs a c B 0 12 (w.alloc (.cells #[.int .i64 0, .slice none 0 0, .slice none 0 0] 32)) (h.below ((Below.refl B w).alloc hB _) (Nat.le_refl _)) (by simp; omega) hl (by omega) (by omega) (by omega) (by omega))
  have hlt := num_lt bs 0 12
  change Hid (Calls _ _ _ _ fun e w' => e = .returned (.tuple #[.int .u64 (num bs 0 12 : Nat), .bool true]) ∧ _) at HG
  obtain ⟨vs, hvs⟩ : ∃ vs, vs = unpL (wid (cntOf bs)) (bs.take (begOf bs)) (cntOf bs + 1) := ⟨_, rfl⟩
  have hvl : vs.length = cntOf bs + 1 := by rw [hvs]; simp
  have hvb : ∀ i, i < cntOf bs → vs.getD (i + 1) 0 < 2 ^ 46 := by
    intro i hi
    rw [hvs, unpL_getD _ _ _ _ (by omega), wid_at _ _ (by omega), if_neg (by omega)]
    exact num_lt _ _ _
  have hvx : ((unpL (wid (cntOf bs)) (bs.take (begOf bs)) (cntOf bs + 1)).drop 1).map backN = tl vs (cntOf bs) := by
    rw [← hvs]
    unfold tl
    rw [List.take_of_length_le (by rw [List.length_drop]; omega)]
  rw [hvx]
  have hbl : begOf bs ≤ bs.length := by unfold begOf; omega
  have HU : Hid (∀ W aw cw, Ro W W.heap.size aw (i64s (wid (cntOf bs))) → Below w.heap.size w W → Calls Tryz.prog 167 #[.slice aw (cntOf bs + 1) cw, .slice a (begOf bs) c] W fun e w' => ∃ g, e = .returned (.tuple #[.slice (some ⟨g, 0, none⟩) (cntOf bs + 1) (cntOf bs + 1), .bool true]) ∧ W.heap.size ≤ g ∧ Own w' g 26 (u64s vs) ∧ Below W.heap.size W w') := by
    apply Lib.hid
    intro W aw cw g1 g2
    have hro : Ro W W.heap.size a (u8s (bs.take (begOf bs))) := by
      have := ((h.below g2 hB).mono (Nat.le_trans hB g2.size)).take (begOf bs)
      rwa [show (u8s bs).take (begOf bs) = u8s (bs.take (begOf bs)) by simp [u8s]] at this
    have := unpack_yes (wid (cntOf bs)) (bs.take (begOf bs)) aw a cw c W.heap.size W g1 hro (Nat.le_refl _) (by simp [cntOf]; omega) huo
    rw [wid_length, show (bs.take (begOf bs)).length = begOf bs by rw [List.length_take]; omega] at this
    refine this.mono ?_
    rintro e w' ⟨g, us, h1, h3, h4, h5, h6⟩
    have hu := unpL_is (wid (cntOf bs)) (bs.take (begOf bs))
    rw [wid_length, ← hvs] at hu
    rw [h4.unique hu] at h5
    exact ⟨g, h1, h3, h5, h6⟩
  have HDR : Hid (Ro w B (if c = begOf bs then a else a.map fun x => x.add (begOf bs)) (u8s (bs.drop (begOf bs)))) := by
    apply Lib.hid
    have := h.drop (begOf bs) c (by rw [u8s_length]; exact hnc)
    rwa [show (u8s bs).drop (begOf bs) = u8s (bs.drop (begOf bs)) by simp [u8s]] at this
  have hdl : (bs.drop (begOf bs)).length = num bs 0 12 % 128 := by rw [List.length_drop]; unfold begOf; omega
  obtain ⟨b0, off, rfl, hb0, -⟩ := h.u8 (by omega)
  clear huo hvs hvx
  have hbeg : begOf bs + num bs 0 12 % 128 = bs.length := by unfold begOf; omega
  have hcd : cntOf bs = num bs 0 12 / 128 % 8 := rfl
  generalize bs.drop (begOf bs) = ds at *
  generalize begOf bs = beg at *
  generalize cntOf bs = cnt at *
  generalize num bs 0 12 = h0 at *
  generalize bs.length = n at *
  clear h
  have HS1 := Lib.hid (fun W => split_z (h0 : Int) 7 ((h0 / 128 : Nat) : Int) ((h0 % 128 : Nat) : Int) W (by omega) (by omega) (by omega) (by omega) (by omega))
  have HS2 := Lib.hid (fun W => split_z ((h0 / 128 : Nat) : Int) 3 1 ((h0 / 128 % 8 : Nat) : Int) W (by omega) (by omega) (by omega) (by omega) (by omega))
  change Hid (∀ W, Calls _ _ #[.int .u64 (h0 : Int), .int .i64 7] _ _) at HS1
  change Hid (∀ W, Calls _ _ #[.int .u64 ((h0 / 128 : Nat) : Int), .int .i64 3] _ _) at HS2
  have hR : h0 / 128 < 32 := by omega
  have hs : h0 % 128 < 128 := by omega
  rw [← hcd] at HS2
  have hct : cnt < 8 := by omega
  clear hcd hnb
  generalize h0 / 128 = R at *
  generalize h0 % 128 = sz at *
  have HE1 := Lib.hid (wrap_small sz (Nat.lt_trans hs (by decide)))
  have HE2 := Lib.hid (wrap_small cnt (Nat.lt_trans hct (by decide)))
  have HW := Lib.hid (fun W => widths_any cnt W (Nat.le_of_lt (Nat.lt_trans hct (by decide))))
  have hbc : (beg : Int) ≤ (c : Int) := by omega
  have HE4 : Hid (n - beg = sz) := Lib.hid (by omega)
  have HE3 : Hid ((n : Int) - (sz : Int) = (beg : Int)) := Lib.hid (by omega)
  have HE2' : Hid (IntKind.i64.wrap (cnt : Int) = (cnt : Int)) := Lib.hid (wrap_small2 cnt (Nat.lt_trans hct (by decide)))
  have HF := Lib.hid (And.intro h2 (And.intro hl (And.intro hbl (And.intro hnc (And.intro hc (And.intro hct hbc))))))
  have HR2 := Lib.hid hR
  have HB0 := Lib.hid hB
  have HB00 := Lib.hid hb0
  have hn1 : (n : Int) ≤ 1000000 := by omega
  have hs1 : (sz : Int) ≤ (n : Int) := by omega
  clear h2 hl hbl hnc hc hct hbc hlt hsz hs hR HE2 hB hb0
  have HVL := Lib.hid hvl
  have HVB := Lib.hid hvb
  have HDL := Lib.hid hdl
  have HBEG := Lib.hid hbeg
  clear hvl hvb hdl hbeg
  unfold DcP
  simp only
  rw [HDL.out, tl_length vs cnt (Nat.le_of_eq HVL.out.symm)]
  change Calls _ _ _ _ (DcQ w sz cnt ds (tl vs cnt))
  go_enter Tryz.func142, Tryz.ntmps142
  go_wp2_with fail
  refine HG.out.mono ?_
  rintro e w1 ⟨rfl, hb⟩
  have HB1 : Hid (Below w.heap.size w w1) := Lib.hid (((Below.refl _ _).alloc (Nat.le_refl _) _).trans (hb.mono (by simp)))
  have o1 := (Own.new w 32 [.int .i64 0, .slice none 0 0, .slice none 0 0]).below hb (by simp)
  have HO1 := Lib.hid o1
  clear hb o1
  go_wp2_with fail
  refine (HS1.out _).mono ?_
  rintro e w2 ⟨rfl, rfl⟩
  go_wp2_with fail
  refine (HS2.out _).mono ?_
  rintro e w2 ⟨rfl, rfl⟩
  have e1 := HE1.out
  have e3 := HE3.out
  go_wp2_with fail
  clear e1 e3
  have HZ0 : Hid (Below w.heap.size w w1.drew.drew ∧ Own w1.drew.drew w.heap.size 32 [.int .i64 0, .slice none 0 0, .slice none 0 0]) := Lib.hid ⟨HB1.out.drew.drew, HO1.out⟩
  generalize w1.drew.drew = w2 at *
  clear HB1 HO1 HG HS1 HS2
  have HS9 : Hid (Below w.heap.size w w2.drew ∧ Own w2.drew w.heap.size 32 [.int .i64 0, .slice none 0 0, .slice none 0 0]) := Lib.hid ⟨HZ0.out.1.drew, HZ0.out.2⟩
  refine wp_region_held_drew (S := (fun w' => Below w.heap.size w w' ∧ Own w' w.heap.size 32 [.int .i64 0, .slice none 0 0, .slice none 0 0])) (by kernel_rfl) HS9.out (fun hHeld => ?_)
  have e2 := HE2'.out
  have hbc : (beg : Int) ≤ (c : Int) := HF.out.2.2.2.2.2.2
  clear hn1 hs1
  refine wpAnyH_take (i := 0) (v := ?_) rfl (by kernel_rfl) (by kernel_rfl) (by kernel_rfl) (fun _ _ _ h => h) (Or.inl ⟨by kernel_rfl, ?_⟩) hHeld ?_
  rotate_left
  · (intro w hSw; first | (go_simp; done) | (go_simp; with_reducible rfl))
  (try simp only [Act.put, List.getElem_toArray, List.getElem_cons_succ, List.getElem_cons_zero, List.setIfInBounds_toArray, List.set_cons_zero, List.set_cons_succ])
  refine wpAnyH_take (i := 1) (v := ?_) rfl (by kernel_rfl) (by kernel_rfl) (by kernel_rfl) (fun _ _ _ h => h) (Or.inl ⟨by kernel_rfl, ?_⟩) hHeld ?_
  rotate_left
  · (intro w hSw; first | (go_simp; done) | (go_simp; with_reducible rfl))
  (try simp only [Act.put, List.getElem_toArray, List.getElem_cons_succ, List.getElem_cons_zero, List.setIfInBounds_toArray, List.set_cons_zero, List.set_cons_succ])
  refine wpAnyH_take (i := 3) (v := ?_) rfl (by kernel_rfl) (by kernel_rfl) (by kernel_rfl) (fun _ _ _ h => h) (Or.inl ⟨by kernel_rfl, ?_⟩) hHeld ?_
  rotate_left
  · (intro w hSw; first | (go_simp; done) | (go_simp; with_reducible rfl))
  (try simp only [Act.put, List.getElem_toArray, List.getElem_cons_succ, List.getElem_cons_zero, List.setIfInBounds_toArray, List.set_cons_zero, List.set_cons_succ])
  refine wpAnyH_take (i := 4) (v := ?_) rfl (by kernel_rfl) (by kernel_rfl) (by kernel_rfl) (fun _ _ _ h => h) (Or.inl ⟨by kernel_rfl, ?_⟩) hHeld ?_
  rotate_left
  · (intro w hSw; first | (go_simp; done) | (go_simp; with_reducible rfl))
  (try simp only [Act.put, List.getElem_toArray, List.getElem_cons_succ, List.getElem_cons_zero, List.setIfInBounds_toArray, List.set_cons_zero, List.set_cons_succ])
  refine wpAnyH_take (i := 5) (v := ?_) rfl (by kernel_rfl) (by kernel_rfl) (by kernel_rfl) (fun _ _ _ h => h) (Or.inl ⟨by kernel_rfl, ?_⟩) hHeld ?_
  rotate_left
  · (intro w hSw; first | (go_simp; done) | (go_simp; with_reducible rfl))
  (try simp only [Act.put, List.getElem_toArray, List.getElem_cons_succ, List.getElem_cons_zero, List.setIfInBounds_toArray, List.set_cons_zero, List.set_cons_succ])
  refine wpAnyH_ready (rs := [2]) (by kernel_rfl) (by simp) (AllReadyH.cons rfl (fun K hK => ?_) AllReadyH.nil)
  have hH := hHeld
  (go_simp; go_at_call 98; refine (HW.out _).mono ?_; rintro e w6 ⟨aw, cw, rfl, hrw, hb6⟩)
  refine hK.out _ _ (by exact ⟨hH.1.trans (hb6.mono hH.1.size), hH.2.below hb6 hH.2.lt⟩) (fun hHq1 => ?_)
  clear hK K hH 
  (try simp only [Act.put, List.getElem_toArray, List.getElem_cons_succ, List.getElem_cons_zero, List.setIfInBounds_toArray, List.set_cons_zero, List.set_cons_succ])
  refine wpAnyH_ready (rs := [6]) (by kernel_rfl) (by simp) (AllReadyH.cons rfl (fun K hK => ?_) AllReadyH.nil)
  have hH := hHq1
  (go_simp; go_at_call 167; refine (HU.out _ _ _ hrw hH.1).mono ?_; rintro e w7 ⟨g, rfl, hg, hown, hb7⟩)
  refine hK.out _ _ (by exact ⟨hH.1.trans (hb7.mono hH.1.size), hH.2.below hb7 hH.2.lt⟩) (fun hHq2 => ?_)
  clear hK K hH hHq1
  (try simp only [Act.put, List.getElem_toArray, List.getElem_cons_succ, List.getElem_cons_zero, List.setIfInBounds_toArray, List.set_cons_zero, List.set_cons_succ])
  refine wpAnyH_take (i := 7) (v := ?_) rfl (by kernel_rfl) (by kernel_rfl) (by kernel_rfl) (fun _ _ _ h => h) (Or.inl ⟨by kernel_rfl, ?_⟩) hHq2 ?_
  rotate_left
  · (intro w hSw; first | (go_simp; done) | (go_simp; with_reducible rfl))
  (try simp only [Act.put, List.getElem_toArray, List.getElem_cons_succ, List.getElem_cons_zero, List.setIfInBounds_toArray, List.set_cons_zero, List.set_cons_succ])
  refine wpAnyH_take (i := 8) (v := ?_) rfl (by kernel_rfl) (by kernel_rfl) (by kernel_rfl) (fun _ _ _ h => h) (Or.inl ⟨by kernel_rfl, ?_⟩) hHq2 ?_
  rotate_left
  · (intro w hSw; first | (go_simp; done) | (go_simp; with_reducible rfl))
  (try simp only [Act.put, List.getElem_toArray, List.getElem_cons_succ, List.getElem_cons_zero, List.setIfInBounds_toArray, List.set_cons_zero, List.set_cons_succ])
  refine wpAnyH_take (i := 9) (v := ?_) rfl (by kernel_rfl) (by kernel_rfl) (by kernel_rfl) (fun _ _ _ h => h) (Or.inl ⟨by kernel_rfl, ?_⟩) hHq2 ?_
  rotate_left
  · (intro w hSw; first | (go_simp; done) | (go_simp; with_reducible rfl))
  (try simp only [Act.put, List.getElem_toArray, List.getElem_cons_succ, List.getElem_cons_zero, List.setIfInBounds_toArray, List.set_cons_zero, List.set_cons_succ])
  refine wpAnyH_take (i := 10) (v := ?_) rfl (by kernel_rfl) (by kernel_rfl) (by kernel_rfl) (fun _ _ _ h => h) (Or.inl ⟨by kernel_rfl, ?_⟩) hHq2 ?_
  rotate_left
  · (intro w hSw; first | (go_simp; done) | (go_simp; with_reducible rfl))
  (try simp only [Act.put, List.getElem_toArray, List.getElem_cons_succ, List.getElem_cons_zero, List.setIfInBounds_toArray, List.set_cons_zero, List.set_cons_succ])
  refine wpAnyH_take (i := 11) (v := ?_) rfl (by kernel_rfl) (by kernel_rfl) (by kernel_rfl) (fun _ _ _ h => h) (Or.inl ⟨by kernel_rfl, ?_⟩) hHq2 ?_
  rotate_left
  · (intro w hSw; first | (go_simp; done) | (go_simp; with_reducible rfl))
  (try simp only [Act.put, List.getElem_toArray, List.getElem_cons_succ, List.getElem_cons_zero, List.setIfInBounds_toArray, List.set_cons_zero, List.set_cons_succ])
  refine wpAnyH_done (by kernel_rfl) ?_ _
  have hEnd := hHq2
  clear hHeld e2
  obtain ⟨ad, hif⟩ : ∃ ad : Addr, (if c = beg then some (⟨b0, off, none⟩ : Addr) else some ⟨b0, off + beg, none⟩) = some ad := by
    by_cases h : c = beg
    · exact ⟨_, if_pos h⟩
    · exact ⟨_, if_neg h⟩
  have HDR2 : Hid (Ro w B (some ad) (u8s ds)) := by
    apply Lib.hid
    rw [← hif]
    have h := HDR.out
    by_cases h' : c = beg
    · rw [if_pos h'] at h ⊢; exact h
    · rw [if_neg h'] at h ⊢
      rw [Option.map_some, add_off] at h
      exact h
  clear HDR
  have e4 := HE4.out
  have hbn : (beg : Int) ≤ (n : Int) := by have := HF.out; omega
  have HB7 : Hid (Below w.heap.size w w7) := Lib.hid hEnd.1
  have HCl := Lib.hid (clone_any ds sz (some ad) (c - beg) B w7 HDL.out (HDR2.out.below hEnd.1 HB0.out) (Nat.le_trans HB0.out hEnd.1.size) (fun h => by cases h) (by have := HF.out; omega))
  have HO7 := Lib.hid hEnd.2
  have HOg := Lib.hid hown
  have HGg := Lib.hid (Nat.le_trans (by have := hb6.size; have := HZ0.out.1.size; exact Nat.le_trans (Nat.le_trans HZ0.out.1.size (show w2.heap.size ≤ w2.drew.heap.size from Nat.le_refl _)) hb6.size) hg)
  clear hrw hb6 hown hb7 hg hEnd
  go_wp2_with fail
  refine HCl.out.mono ?_
  rintro e w8 hcl
  unfold ClP at hcl
  obtain ⟨a8, c8, rfl, hr8, hf8, hb8⟩ := hcl
  have HF8 : Hid (∀ ad, a8 = some ad → w.heap.size < ad.block) := Lib.hid fun ad h => Nat.lt_of_lt_of_le HO7.out.lt (hf8 ad h)
  clear hf8
  have HR8 := Lib.hid hr8
  have HB8 := Lib.hid (HB7.out.trans (hb8.mono HB7.out.size))
  have HO8 := Lib.hid (HO7.out.below hb8 HO7.out.lt)
  have HOg8 := Lib.hid (HOg.out.below hb8 HOg.out.lt)
  clear hr8 hb8 hif e4
  obtain ⟨ag, hif2⟩ : ∃ ag : Addr, (if cnt = 0 then some (⟨g, 0, none⟩ : Addr) else some ⟨g, 1, none⟩) = some ag := by
    by_cases h : cnt = 0
    · exact ⟨_, if_pos h⟩
    · exact ⟨_, if_neg h⟩
  go_wp2_with fail
  have HIF2 := Lib.hid hif2
  have hgX : w.heap.size < w8.heap.size := HO8.out.lt
  have hgg : g < w8.heap.size := HOg8.out.lt
  clear hif2 hbc hbn
  have hcn : (0 : Int) ≤ (cnt : Int) := by omega
  have HCT : Hid (cnt < 8) := Lib.hid HF.out.2.2.2.2.2.1
  have hct8 : (cnt : Int) < 8 := by have := HCT.out; omega
  go_loopw [66] (fun i wr => ∃ (k : Nat) (al : Option Addr) (nl cl : Nat), k ≤ cnt ∧ i = .int .i64 (k : Int) ∧ Hid (Own wr w8.heap.size 32 [.int .i64 1, .slice a8 sz c8, .slice al nl cl]) ∧ Hid (Lb wr (w8.heap.size + 1) (.slice al nl cl) (tl vs k)) ∧ Hid (Below w8.heap.size w8 wr)) (fun i _ => cnt - (intOf i).toNat)
  case atStart => exact ⟨0, none, 0, 0, Nat.zero_le _, rfl, Lib.hid (Own.new w8 _ _), Lib.hid (Lb.nil _ _), Lib.hid ((Below.refl _ _).alloc (Nat.le_refl _) _)⟩
  case round =>
    obtain ⟨k, al, nl, cl, hk, rfl, HOX, HLB, HBr⟩ := hrel
    have hzr : w8.heap.size < wr.heap.size := HOX.out.lt
    have c0 := HOX.out.cell 0
    have c1 := HOX.out.cell 1
    have c2 := HOX.out.cell 2
    simp at c0 c1 c2
    by_cases hlt : k < cnt
    · have hag : ag = ⟨g, 1, none⟩ := by
        have h := HIF2.out
        rw [if_neg (by omega)] at h
        injection h with h
        exact h.symm
      subst hag
      have hfc : wr.cell? ⟨g, 1 + k, none⟩ = some (.int .u64 (vs.getD (k + 1) 0 : Nat)) := by
        have h := (HOg8.out.below HBr.out hgg).cell (1 + k)
        rw [h, Nat.add_comm 1 k]
        have hl : k + 1 < vs.length := by rw [HVL.out]; omega
        simp [u64s, List.getD, hl]
      have HST := Lib.hid (tl_step vs k (by rw [HVL.out]; omega))
      have HTL : Hid ((tl vs k).length ≤ 1000000) := Lib.hid (by rw [tl_length vs k (by rw [HVL.out]; omega)]; have := HCT.out; omega)
      have HBO := Lib.hid (fun W => backOf_any (vs.getD (k + 1) 0) W (HVB.out k hlt))
      generalize vs.getD (k + 1) 0 = f at *
      generalize backN f = y at *
      have hk0 : (0 : Int) ≤ (k : Int) := by omega
      have hk1 : (k : Int) < (cnt : Int) := by omega
      clear c0 c1
      go_wp2_with fail
      have HNX : Hid (∀ w9 w5, Below wr.heap.size wr w9 → (w9.alloc (.cells #[.int .i64 y.1, .int .u64 (y.2.1 : Int), .int .u64 (y.2.2 : Int)] 96)).grownBy w5 (Value.slice al nl cl).ownBlock → Own w5 w8.heap.size 32 [.int .i64 1, .slice a8 sz c8, .slice al nl cl] ∧ Below w8.heap.size w8 w5) := by
        apply Lib.hid
        intro w9 w5 h1 h2
        have hl9 := (HLB.out.below h1 (Nat.le_refl _)).alloc (.cells #[.int .i64 y.1, .int .u64 (y.2.1 : Int), .int .u64 (y.2.2 : Int)] 96)
        have hs9 := h1.size
        refine ⟨((HOX.out.below h1 hzr).alloc _).grown h2 (fun e => ?_), Lb.grown_below ((HBr.out.trans (h1.mono (by omega))).alloc (by omega) _) hl9 h2 (by omega) (by simp; omega)⟩
        have := (hl9.lt w8.heap.size e.symm).1
        omega
      refine wp_region_held_drew (S := (fun w' => Below w8.heap.size w8 w')) (by kernel_rfl) HBr.out.drew (fun hHeld => ?_)
      refine wpAnyH_take (i := 0) (v := ?_) rfl (by kernel_rfl) (by kernel_rfl) (by kernel_rfl) (fun _ _ _ h => h) (Or.inl ⟨by kernel_rfl, ?_⟩) hHeld ?_
      rotate_left
      · (intro w hSw; first | (go_simp; done) | (go_simp; with_reducible rfl))
      (try simp only [Act.put, List.getElem_toArray, List.getElem_cons_succ, List.getElem_cons_zero, List.setIfInBounds_toArray, List.set_cons_zero, List.set_cons_succ])
      refine wpAnyH_take (i := 2) (v := ?_) rfl (by kernel_rfl) (by kernel_rfl) (by kernel_rfl) (fun _ _ _ h => h) (Or.inl ⟨by kernel_rfl, ?_⟩) hHeld ?_
      rotate_left
      · (intro w hSw; first | (go_simp; done) | (go_simp; with_reducible rfl))
      (try simp only [Act.put, List.getElem_toArray, List.getElem_cons_succ, List.getElem_cons_zero, List.setIfInBounds_toArray, List.set_cons_zero, List.set_cons_succ])
      refine wpAnyH_ready (rs := [1,3]) (by kernel_rfl) (by simp) (AllReadyH.cons rfl (fun K hK => ?_) (AllReadyH.cons rfl (fun K hK => ?_) AllReadyH.nil))
      · have hH := hHeld
        (have g1 : World.cell? wr.drew ⟨w8.heap.size, 2, none⟩ = some (.slice al nl cl) := c2; go_simp)
        refine hK.out _ _ (by exact hH) (fun hHq1 => ?_)
        clear hK K hH 
        clear g1
        (try simp only [Act.put, List.getElem_toArray, List.getElem_cons_succ, List.getElem_cons_zero, List.setIfInBounds_toArray, List.set_cons_zero, List.set_cons_succ])
        refine wpAnyH_ready (rs := [3]) (by kernel_rfl) (by simp) (AllReadyH.cons rfl (fun K hK => ?_) AllReadyH.nil)
        have hH := hHq1
        (go_simp; go_at_call 169; refine (HBO.out _).mono ?_; rintro e w9 ⟨rfl, hb9⟩)
        refine hK.out _ _ (by exact hH.trans (hb9.mono (Nat.le_of_lt hzr))) (fun hHq2 => ?_)
        clear hK K hH hHq1
        have hb8' : Below wr.heap.size wr w9 := (Below.refl wr.heap.size wr).drew.trans hb9; have hz9 := hb8'.size; clear hb9
        (try simp only [Act.put, List.getElem_toArray, List.getElem_cons_succ, List.getElem_cons_zero, List.setIfInBounds_toArray, List.set_cons_zero, List.set_cons_succ])
        refine wpAnyH_ready (rs := [4]) (by kernel_rfl) (by simp) (AllReadyH.cons rfl (fun K hK => ?_) AllReadyH.nil)
        have hH := hHq2
        (go_simp; skip)
        refine hK.out _ _ (by exact hH.alloc hH.size _) (fun hHq3 => ?_)
        clear hK K hH hHq2
        (try simp only [Act.put, List.getElem_toArray, List.getElem_cons_succ, List.getElem_cons_zero, List.setIfInBounds_toArray, List.set_cons_zero, List.set_cons_succ])
        refine wpAnyH_ready (rs := [5]) (by kernel_rfl) (by simp) (AllReadyH.cons rfl (fun K hK => ?_) AllReadyH.nil)
        have hH := hHq3
        (refine step_app3 (by rfl) (.tmp 71) (.tmp 74) (by rfl) (w8.heap.size + 1) (.slice al nl cl) (tl vs k) (by rfl) ((HLB.out.below hb8' (Nat.le_refl _)).alloc _) w9.heap.size y 96 (Own.new w9 _ _) (by rfl) HTL.out (by simp; omega) ?_; intro v5 w5 K5 G5)
        refine hK.out _ _ (by exact (HNX.out w9 w5 hb8' G5).2) (fun hHq4 => ?_)
        clear hK K hH hHq3
        have o5 := (HNX.out w9 w5 hb8' G5).1; have g5 := o5.cell 2; have f5 := o5.frozen 2; simp at g5; have HO5 := Lib.hid o5; clear o5; obtain ⟨a5, c5, rfl, _, _, _⟩ := K5.out.form
        (try simp only [Act.put, List.getElem_toArray, List.getElem_cons_succ, List.getElem_cons_zero, List.setIfInBounds_toArray, List.set_cons_zero, List.set_cons_succ])
        refine wpAnyH_take (i := 6) (v := ?_) rfl (by kernel_rfl) (by kernel_rfl) (by kernel_rfl) (fun _ _ _ h => h) (Or.inl ⟨by kernel_rfl, ?_⟩) hHq4 ?_
        rotate_left
        · (intro w hSw; first | (go_simp; done) | (go_simp; with_reducible rfl))
        (try simp only [Act.put, List.getElem_toArray, List.getElem_cons_succ, List.getElem_cons_zero, List.setIfInBounds_toArray, List.set_cons_zero, List.set_cons_succ])
        refine wpAnyH_ready (rs := [7]) (by kernel_rfl) (by simp) (AllReadyH.cons rfl (fun K hK => ?_) AllReadyH.nil)
        have hH := hHq4
        (go_simp; skip)
        refine hK.out _ _ (by exact hH.setCell (Nat.le_refl _) _) (fun hHq5 => ?_)
        clear hK K hH hHq4
        (try simp only [Act.put, List.getElem_toArray, List.getElem_cons_succ, List.getElem_cons_zero, List.setIfInBounds_toArray, List.set_cons_zero, List.set_cons_succ])
        refine wpAnyH_done (by kernel_rfl) ?_ _
        have hEnd := hHq5
        (have hE : Hid (Below w8.heap.size w8 _) := Lib.hid hEnd; clear hEnd hHeld g5 f5 c2 hfc; go_wp2_with fail; go_roundw; (case rel => exact ⟨k + 1, a5, _, c5, by omega, by go_num, Lib.hid (HO5.out.set 2 _), Lib.hid (by rw [HST.out]; have h := K5.out; rw [List.length_append] at h; exact h.far (p := ⟨w8.heap.size, 2, none⟩) (Nat.lt_succ_self _) _), hE⟩); (case measure => simp [intOf]; omega))
      · have hH := hHeld
        (go_simp; go_at_call 169; refine (HBO.out _).mono ?_; rintro e w9 ⟨rfl, hb9⟩)
        refine hK.out _ _ (by exact hH.trans (hb9.mono (Nat.le_of_lt hzr))) (fun hHq6 => ?_)
        clear hK K hH 
        have hb8' : Below wr.heap.size wr w9 := (Below.refl wr.heap.size wr).drew.trans hb9; have hz9 := hb8'.size; clear hb9
        (try simp only [Act.put, List.getElem_toArray, List.getElem_cons_succ, List.getElem_cons_zero, List.setIfInBounds_toArray, List.set_cons_zero, List.set_cons_succ])
        refine wpAnyH_ready (rs := [1,4]) (by kernel_rfl) (by simp) (AllReadyH.cons rfl (fun K hK => ?_) (AllReadyH.cons rfl (fun K hK => ?_) AllReadyH.nil))
        · have hH := hHq6
          (have g1 : World.cell? w9 ⟨w8.heap.size, 2, none⟩ = some (.slice al nl cl) := (by simpa using (HOX.out.below hb8' hzr).cell 2); go_simp)
          refine hK.out _ _ (by exact hH) (fun hHq7 => ?_)
          clear hK K hH hHq6
          clear g1
          (try simp only [Act.put, List.getElem_toArray, List.getElem_cons_succ, List.getElem_cons_zero, List.setIfInBounds_toArray, List.set_cons_zero, List.set_cons_succ])
          refine wpAnyH_ready (rs := [4]) (by kernel_rfl) (by simp) (AllReadyH.cons rfl (fun K hK => ?_) AllReadyH.nil)
          have hH := hHq7
          (go_simp; skip)
          refine hK.out _ _ (by exact hH.alloc hH.size _) (fun hHq8 => ?_)
          clear hK K hH hHq7
          (try simp only [Act.put, List.getElem_toArray, List.getElem_cons_succ, List.getElem_cons_zero, List.setIfInBounds_toArray, List.set_cons_zero, List.set_cons_succ])
          refine wpAnyH_ready (rs := [5]) (by kernel_rfl) (by simp) (AllReadyH.cons rfl (fun K hK => ?_) AllReadyH.nil)
          have hH := hHq8
          (refine step_app3 (by rfl) (.tmp 71) (.tmp 74) (by rfl) (w8.heap.size + 1) (.slice al nl cl) (tl vs k) (by rfl) ((HLB.out.below hb8' (Nat.le_refl _)).alloc _) w9.heap.size y 96 (Own.new w9 _ _) (by rfl) HTL.out (by simp; omega) ?_; intro v5 w5 K5 G5)
          refine hK.out _ _ (by exact (HNX.out w9 w5 hb8' G5).2) (fun hHq9 => ?_)
          clear hK K hH hHq8
          have o5 := (HNX.out w9 w5 hb8' G5).1; have g5 := o5.cell 2; have f5 := o5.frozen 2; simp at g5; have HO5 := Lib.hid o5; clear o5; obtain ⟨a5, c5, rfl, _, _, _⟩ := K5.out.form
          (try simp only [Act.put, List.getElem_toArray, List.getElem_cons_succ, List.getElem_cons_zero, List.setIfInBounds_toArray, List.set_cons_zero, List.set_cons_succ])
          refine wpAnyH_take (i := 6) (v := ?_) rfl (by kernel_rfl) (by kernel_rfl) (by kernel_rfl) (fun _ _ _ h => h) (Or.inl ⟨by kernel_rfl, ?_⟩) hHq9 ?_
          rotate_left
          · (intro w hSw; first | (go_simp; done) | (go_simp; with_reducible rfl))
          (try simp only [Act.put, List.getElem_toArray, List.getElem_cons_succ, List.getElem_cons_zero, List.setIfInBounds_toArray, List.set_cons_zero, List.set_cons_succ])
          refine wpAnyH_ready (rs := [7]) (by kernel_rfl) (by simp) (AllReadyH.cons rfl (fun K hK => ?_) AllReadyH.nil)
          have hH := hHq9
          (go_simp; skip)
          refine hK.out _ _ (by exact hH.setCell (Nat.le_refl _) _) (fun hHq10 => ?_)
          clear hK K hH hHq9
          (try simp only [Act.put, List.getElem_toArray, List.getElem_cons_succ, List.getElem_cons_zero, List.setIfInBounds_toArray, List.set_cons_zero, List.set_cons_succ])
          refine wpAnyH_done (by kernel_rfl) ?_ _
          have hEnd := hHq10
          (have hE : Hid (Below w8.heap.size w8 _) := Lib.hid hEnd; clear hEnd hHeld g5 f5 c2 hfc; go_wp2_with fail; go_roundw; (case rel => exact ⟨k + 1, a5, _, c5, by omega, by go_num, Lib.hid (HO5.out.set 2 _), Lib.hid (by rw [HST.out]; have h := K5.out; rw [List.length_append] at h; exact h.far (p := ⟨w8.heap.size, 2, none⟩) (Nat.lt_succ_self _) _), hE⟩); (case measure => simp [intOf]; omega))
        · have hH := hHq6
          (go_simp; skip)
          refine hK.out _ _ (by exact hH.alloc hH.size _) (fun hHq11 => ?_)
          clear hK K hH hHq6
          (try simp only [Act.put, List.getElem_toArray, List.getElem_cons_succ, List.getElem_cons_zero, List.setIfInBounds_toArray, List.set_cons_zero, List.set_cons_succ])
          refine wpAnyH_ready (rs := [1]) (by kernel_rfl) (by simp) (AllReadyH.cons rfl (fun K hK => ?_) AllReadyH.nil)
          have hH := hHq11
          (have g1 : World.cell? (w9.alloc (.cells #[.int .i64 y.1, .int .u64 (y.2.1 : Int), .int .u64 (y.2.2 : Int)] 96)) ⟨w8.heap.size, 2, none⟩ = some (.slice al nl cl) := (by simpa using ((HOX.out.below hb8' hzr).alloc (.cells #[.int .i64 y.1, .int .u64 (y.2.1 : Int), .int .u64 (y.2.2 : Int)] 96)).cell 2); go_simp)
          refine hK.out _ _ (by exact hH) (fun hHq12 => ?_)
          clear hK K hH hHq11
          clear g1
          (try simp only [Act.put, List.getElem_toArray, List.getElem_cons_succ, List.getElem_cons_zero, List.setIfInBounds_toArray, List.set_cons_zero, List.set_cons_succ])
          refine wpAnyH_ready (rs := [5]) (by kernel_rfl) (by simp) (AllReadyH.cons rfl (fun K hK => ?_) AllReadyH.nil)
          have hH := hHq12
          (refine step_app3 (by rfl) (.tmp 71) (.tmp 74) (by rfl) (w8.heap.size + 1) (.slice al nl cl) (tl vs k) (by rfl) ((HLB.out.below hb8' (Nat.le_refl _)).alloc _) w9.heap.size y 96 (Own.new w9 _ _) (by rfl) HTL.out (by simp; omega) ?_; intro v5 w5 K5 G5)
          refine hK.out _ _ (by exact (HNX.out w9 w5 hb8' G5).2) (fun hHq13 => ?_)
          clear hK K hH hHq12
          have o5 := (HNX.out w9 w5 hb8' G5).1; have g5 := o5.cell 2; have f5 := o5.frozen 2; simp at g5; have HO5 := Lib.hid o5; clear o5; obtain ⟨a5, c5, rfl, _, _, _⟩ := K5.out.form
          (try simp only [Act.put, List.getElem_toArray, List.getElem_cons_succ, List.getElem_cons_zero, List.setIfInBounds_toArray, List.set_cons_zero, List.set_cons_succ])
          refine wpAnyH_take (i := 6) (v := ?_) rfl (by kernel_rfl) (by kernel_rfl) (by kernel_rfl) (fun _ _ _ h => h) (Or.inl ⟨by kernel_rfl, ?_⟩) hHq13 ?_
          rotate_left
          · (intro w hSw; first | (go_simp; done) | (go_simp; with_reducible rfl))
          (try simp only [Act.put, List.getElem_toArray, List.getElem_cons_succ, List.getElem_cons_zero, List.setIfInBounds_toArray, List.set_cons_zero, List.set_cons_succ])
          refine wpAnyH_ready (rs := [7]) (by kernel_rfl) (by simp) (AllReadyH.cons rfl (fun K hK => ?_) AllReadyH.nil)
          have hH := hHq13
          (go_simp; skip)
          refine hK.out _ _ (by exact hH.setCell (Nat.le_refl _) _) (fun hHq14 => ?_)
          clear hK K hH hHq13
          (try simp only [Act.put, List.getElem_toArray, List.getElem_cons_succ, List.getElem_cons_zero, List.setIfInBounds_toArray, List.set_cons_zero, List.set_cons_succ])
          refine wpAnyH_done (by kernel_rfl) ?_ _
          have hEnd := hHq14
          (have hE : Hid (Below w8.heap.size w8 _) := Lib.hid hEnd; clear hEnd hHeld g5 f5 c2 hfc; go_wp2_with fail; go_roundw; (case rel => exact ⟨k + 1, a5, _, c5, by omega, by go_num, Lib.hid (HO5.out.set 2 _), Lib.hid (by rw [HST.out]; have h := K5.out; rw [List.length_append] at h; exact h.far (p := ⟨w8.heap.size, 2, none⟩) (Nat.lt_succ_self _) _), hE⟩); (case measure => simp [intOf]; omega))
    · obtain rfl : k = cnt := by omega
      have oR := HO8.out.below HBr.out hgX
      have d0 := oR.cell 0
      have d1 := oR.cell 1
      have d2 := oR.cell 2
      have f0 := oR.frozen 0
      have f1 := oR.frozen 1
      have f2 := oR.frozen 2
      simp at d0 d1 d2
      have hne : w.heap.size ≠ w8.heap.size := by omega
      clear oR
      obtain ⟨a9, c9, he9, hr9, _, _⟩ := HLB.out.form
      injection he9 with h1 h2 h3
      subst h1 h2 h3
      rw [tl_length vs k (by rw [HVL.out]; exact Nat.le_refl _)] at *
      have HR9 := Lib.hid hr9
      clear hr9
      go_wp2_with fail
      refine bodyPost_ret (v := .tuple #[cev 1 a8 sz c8 al k cl, .bool true]) (by simp [results, Tryz.results142, go_sem, d0, d1, d2]) rfl ?_
      unfold DcQ
      refine ⟨a8, c8, al, cl, rfl, ?_, ?_, fun ad e => Nat.le_of_lt (HF8.out ad e), fun ad e => ?_, ?_⟩
      · have h := HR8.out.below HBr.out (Nat.le_refl _)
        refine (((h.far fun ad e => ?_).far fun ad e => ?_).far fun ad e => ?_).mono (by simp [set_size]; exact HBr.out.size)
        all_goals exact Nat.ne_of_gt (HF8.out ad e)
      · have h := ((HLB.out.far (p := ⟨w.heap.size, 0, none⟩) (by show w.heap.size < _; omega) (.int .i64 1)).far (p := ⟨w.heap.size, 1, none⟩) (by show w.heap.size < _; omega) (.slice a8 sz c8)).far (p := ⟨w.heap.size, 2, none⟩) (by show w.heap.size < _; omega) (.slice al k cl)
        obtain ⟨a9, c9, he9, hr9, _, _⟩ := h.form
        injection he9 with h1 h2 h3
        subst h1
        exact hr9
      · have := (HLB.out.lt ad.block (by subst e; rfl)).1
        omega
      · exact (((HB8.out.trans (HBr.out.mono (Nat.le_of_lt hgX))).setCell (Nat.le_refl _) _).setCell (Nat.le_refl _) _).setCell (Nat.le_refl _) _
end Go.Proofs.YteenlkmnadjnpaaGreat
namespace Go.Proofs.YteenlkmnadjnpaaGreat
open Go.RowKit Go.Deep
set_option linter.unusedVariables false
set_option linter.unusedSimpArgs false

set_option maxHeartbeats 4000000 in
theorem mbackF_any (bs : List UInt8) (B s k : Nat) (w : World) (h : Src w 98 B s bs k) (hk : k ≤ 900000) :
    Calls Tryz.prog 141 #[nv s] w fun e w' => e = .returned (bkv (pB bs k).1) ∧ Src w' 98 B s bs (pB bs k).2 ∧ Chg [s] w w' := by
  have eg := egT
  have HK := Lib.hid hk
  have HZ := Lib.hid h.lt
  have HB := Lib.hid h.2.1
  obtain ⟨W, HWW⟩ : ∃ W, Hid (w.alloc (.cells #[.int .i64 0, .int .u64 0, .int .u64 0] 96) = W) := ⟨_, Lib.hid rfl⟩
  have hWc : Chg [] w W := by rw [← HWW.out]; exact (Chg.refl [] w).alloc _
  have HO : Hid (Own W w.heap.size 96 [.int .i64 0, .int .u64 0, .int .u64 0]) := Lib.hid (by rw [← HWW.out]; exact Own.new w _ _)
  have HC := Lib.hid hWc
  have H1 := Lib.hid (mtake_any bs B s k 4 W (h.new0 hWc) (by omega) (by omega))
  have HT := Lib.hid (fun (k' : Nat) (W' : World) (hs : Src W' 98 B s bs k') (hk' : k' ≤ 950000) => mtake_any bs B s k' 21 W' hs (by omega) (by omega))
  have v1 := tkN_lt bs k 4
  have v2 := tkN_lt bs (k + 4) 21
  have v3 := tkN_lt bs (k + 4 + 21) 21
  unfold pB
  have HT1 := Lib.hid (HT.out (k + 4))
  have HT2 := Lib.hid (HT.out (k + 4 + 21))
  clear HT
  generalize tkN bs k 4 = a1 at *
  generalize tkN bs (k + 4) 21 = a2 at *
  generalize tkN bs (k + 4 + 21) 21 = a3 at *
  have e1 := i64_small a1 (by omega)
  have HX : (((a2 : Int) == 1048576) = true ∧ lst a2 = 18446744073709551615) ∨ (((a2 : Int) == 1048576) = false ∧ lst a2 = a2) := by
    by_cases e : a2 = 1048576
    · exact .inl ⟨by rw [beq_iff_eq]; omega, by unfold lst; rw [if_pos e]⟩
    · exact .inr ⟨by rw [beq_eq_false_iff_ne]; omega, by unfold lst; rw [if_neg e]⟩
  have HY : (((a3 : Int) == 1048576) = true ∧ lst a3 = 18446744073709551615) ∨ (((a3 : Int) == 1048576) = false ∧ lst a3 = a3) := by
    by_cases e : a3 = 1048576
    · exact .inl ⟨by rw [beq_iff_eq]; omega, by unfold lst; rw [if_pos e]⟩
    · exact .inr ⟨by rw [beq_eq_false_iff_ne]; omega, by unfold lst; rw [if_neg e]⟩
  clear h hWc hk v1 v2 v3
  rcases HX with ⟨hx, hx'⟩ | ⟨hx, hx'⟩
  all_goals rcases HY with ⟨hy, hy'⟩ | ⟨hy, hy'⟩
  all_goals
    have HXX := Lib.hid hx'
    have HYY := Lib.hid hy'
    clear hx' hy'
    go_enter Tryz.func141, Tryz.ntmps141
    go_upto_region 1 with fail
    rw [HWW.out]
    go_wp2_with fail
    refine H1.out.mono ?_
    rintro e w1 ⟨rfl, h1, h2⟩
    go_upto_region 2 with fail
    obtain ⟨p, hp⟩ : ∃ p, w1.heap.size = p := ⟨_, rfl⟩
    obtain ⟨W2, hW2⟩ : ∃ W2, w1.alloc (.cells #[.int .i64 (a1 : Int), .int .u64 0, .int .u64 0] 96) = W2 := ⟨_, rfl⟩
    have HS2 := Lib.hid (h1.new0 (w' := W2) (by rw [← hW2]; exact (Chg.refl [] w1).alloc _))
    have HC2 : Hid (Chg [s] w W2) := Lib.hid (by rw [← hW2]; exact ((HC.out.nil1 [s]).trans h2).alloc _)
    have HO2 : Hid (Own W2 w.heap.size 96 [.int .i64 0, .int .u64 0, .int .u64 0]) := Lib.hid (by rw [← hW2]; exact (HO.out.chg h2 (by have := HZ.out; simp; omega)).alloc _)
    have HP2 : Hid (Own W2 p 96 [.int .i64 (a1 : Int), .int .u64 0, .int .u64 0]) := Lib.hid (by rw [← hW2, ← hp]; exact Own.new w1 _ _)
    have HPW : Hid (w.heap.size < p) := Lib.hid (by rw [← hp]; exact Nat.lt_of_lt_of_le HO.out.lt h2.size)
    clear h1 h2
    rw [hW2, hp]
    clear hW2 hp
    go_wp2_with fail
    refine wp_loop_rounds 3 ?_
    rw [rounds_succ]
    go_wp2_with fail
    refine (HT1.out W2 HS2.out (by have := HK.out; omega)).mono ?_
    rintro e w3 ⟨rfl, h1, h2⟩
    have HS3 := Lib.hid h1
    have HC3 := Lib.hid (HC2.out.trans h2)
    have HO3 := Lib.hid (HO2.out.chg h2 (by have := HZ.out; simp; omega))
    have HP3 := Lib.hid (HP2.out.chg h2 (by have := HZ.out; have := HPW.out; simp; omega))
    clear h1 h2
    have HST : Hid (∀ V, Src (w3.setCell ⟨p, 1, none⟩ V) 98 B s bs (k + 4 + 21) ∧ Chg [s] w (w3.setCell ⟨p, 1, none⟩ V) ∧ Own (w3.setCell ⟨p, 1, none⟩ V) w.heap.size 96 [.int .i64 0, .int .u64 0, .int .u64 0] ∧ Own (w3.setCell ⟨p, 1, none⟩ V) p 96 [.int .i64 (a1 : Int), V, .int .u64 0]) := Lib.hid (by
      intro V
      have sc : Chg [p] w3 (w3.setCell ⟨p, 1, none⟩ V) := (Chg.refl _ w3).setCell (by simp) _
      have z := HZ.out
      have y := HPW.out
      have x := HB.out
      exact ⟨HS3.out.chg sc (by simp; omega) (fun x hx => by simp only [List.mem_singleton] at hx; subst hx; omega), HC3.out.then sc (fun x hx => by simp only [List.mem_singleton] at hx; subst hx; exact .inr (by omega)), HO3.out.chg sc (by simp; omega), HP3.out.set 1 V⟩)
    have d1 := HP3.out.cell 1
    have f1 := HP3.out.frozen 1
    have hz := HP3.out.lt
    simp at d1
    go_wp2_with fail
    rw [rounds_succ]
    go_wp2_with fail
    refine (HT2.out _ (HST.out _).1 (by have := HK.out; omega)).mono ?_
    rintro e w4 ⟨rfl, h1, h2⟩
    have HS4 := Lib.hid h1
    have HC4 := Lib.hid ((HST.out _).2.1.trans h2)
    have HO4 := Lib.hid ((HST.out _).2.2.1.chg h2 (by have := HZ.out; simp; omega))
    have HP4 := Lib.hid ((HST.out _).2.2.2.chg h2 (by have := HZ.out; have := HPW.out; simp; omega))
    clear h1 h2 d1 f1 hz
    have d0 := HP4.out.cell 0
    have d1 := HP4.out.cell 1
    have d2 := HP4.out.cell 2
    have f2 := HP4.out.frozen 2
    have hz := HP4.out.lt
    have r0 := HO4.out.cell 0
    have r1 := HO4.out.cell 1
    have r2 := HO4.out.cell 2
    have g0 := HO4.out.frozen 0
    have g1 := HO4.out.frozen 1
    have g2 := HO4.out.frozen 2
    have hz4 := HO4.out.lt
    have hne : p ≠ w.heap.size := by have := HPW.out; omega
    have hne' : w.heap.size ≠ p := by have := HPW.out; omega
    simp at d0 d1 d2 r0 r1 r2
    go_wp2_with fail
    rw [rounds_succ]
    go_wp2_with fail
    have sc : ∀ V1 V2 V3 V4, Chg [p, w.heap.size] w4 ((((w4.setCell ⟨p, 2, none⟩ V1).setCell ⟨w.heap.size, 0, none⟩ V2).setCell ⟨w.heap.size, 1, none⟩ V3).setCell ⟨w.heap.size, 2, none⟩ V4) := fun V1 V2 V3 V4 => ((((Chg.refl _ w4).setCell (by simp) _).setCell (by simp) _).setCell (by simp) _).setCell (by simp) _
    refine bodyPost_ret (v := bkv ((a1 : Int), lst a2, lst a3)) (by simp [results, Tryz.results141, go_sem, r0, r1, r2, hz4, bkv, HXX.out, HYY.out, hne, hne']) rfl ⟨rfl, ?_⟩
    have z := HZ.out
    have y := HPW.out
    have x := HB.out
    refine ⟨HS4.out.chg (sc _ _ _ _) (by simp; omega) (fun b hb => ?_), HC4.out.then (sc _ _ _ _) (fun b hb => .inr ?_)⟩
    · simp only [List.mem_cons, List.not_mem_nil, or_false] at hb; omega
    · simp only [List.mem_cons, List.not_mem_nil, or_false] at hb; omega
end Go.Proofs.YteenlkmnadjnpaaGreat
namespace Go.Proofs.YteenlkmnadjnpaaGreat
open Go.RowKit Go.Deep
set_option linter.unusedVariables false
set_option linter.unusedSimpArgs false

theorem Lb.chg {w w' : World} {base : Nat} {v : Value} {L : List Bk} {l : List Nat} (h : Lb w base v L) (hc : Chg l w w') (hl : ∀ x ∈ l, ∀ cur, w.heap[x]? ≠ some (.cells cur 96 (0, 0))) : Lb w' base v L := by
  refine ⟨h.1, ?_⟩
  rcases h.2 with h1 | ⟨g, cap, cur, h1, h2, h3, h4⟩
  · exact .inl h1
  · exact .inr ⟨g, cap, cur, h1, h2, (hc.block g (Array.getElem?_eq_some_iff.1 h3).1 (fun hm => hl g hm cur h3)).trans h3, h4⟩
theorem Lb.row {w : World} {base : Nat} {v : Value} {L : List Bk} (h : Lb w base v L) : ∀ x ∈ rowOf v, base ≤ x ∧ ∃ cur, w.heap[x]? = some (.cells cur 96 (0, 0)) := by
  intro x hx
  rcases h.2 with ⟨rfl, _⟩ | ⟨g, cap, cur, rfl, h2, h3, _⟩
  · simp [rowOf, Value.ownBlock] at hx
  · simp [rowOf, Value.ownBlock] at hx
    subst hx
    exact ⟨h2, cur, h3⟩
/-- append of one Back -/
theorem wpList_appBk {ops : Array Oper} {rest : List Oper} {o : Oper} {a : Act} {w : World} {Q : Exit → Act → World → Prop} (hgd : o.guard = none) (s x : Operand)
    (ho : o.op = .call { callee := .builtin .append, args := #[s, x], argTypes := #[30, 30] })
    (base : Nat) (v : Value) (L : List Bk) (hs : a.eval s = v) (hown : Lb w base v L) (g : Nat) (y : Bk) (t : TypeId) (hnew : Own w g t (bcs [y]))
    (hx : a.eval x = .slice (some ⟨g, 0, none⟩) 1 1) (hlen : L.length ≤ 1000000) (hbase : base ≤ w.heap.size)
    (h : ∀ v' w', Hid (Lb w' base v' (L ++ [y])) → Chg (rowOf v) w w' → wpList Tryz.prog ops Q rest (a.put o.dst v') w') : wpList Tryz.prog ops Q (o :: rest) a w := by
  obtain ⟨i, hi, hzz⟩ := Option.map_eq_some_iff.1 Tryz.info_back
  simp only [Prod.mk.injEq] at hzz
  obtain ⟨hz, hsz, hby⟩ := hzz
  refine wpList_append_own w hgd s x 30 ho base 96 i _ 3 24 Tryz.underlying30 hi hz hsz hby rfl (by omega) v L.length (bcs L) hs hown ⟨g, 0, none⟩ 1 1 (bcs [y]) hx (by simp) (fun j u hu => ?_) (bcs_one _) (by unfold maxLen; omega) (by omega) hbase fun v' w' h2 h3 _ => h v' w' ?_ (grown_chg h3)
  · rw [add_off, Nat.zero_add, hnew.cell j]; exact hu
  · show w'.ownsRow base 96 3 v' (L ++ [y]).length (bcs (L ++ [y]))
    rw [List.length_append, bcs_append]
    exact h2

set_option maxHeartbeats 1000000 in
theorem mbacksF_any (bs : List UInt8) (B s k : Nat) (w : World) (h : Src w 98 B s bs k) (hk : k ≤ 800000) :
    Calls Tryz.prog 112 #[nv s] w fun e w' => ∃ a c, e = .returned (.slice a (pBks bs k).1.length c) ∧ Lb w' w.heap.size (.slice a (pBks bs k).1.length c) (pBks bs k).1 ∧ Src w' 98 B s bs (pBks bs k).2 ∧ Chg [s] w w' := by
  have eg := egT
  have HT := Lib.hid (mtake_any bs B s k 5 w h (by omega) (by omega))
  have HZ := Lib.hid h.lt
  obtain ⟨n, hn⟩ : ∃ n, tkN bs k 5 = n := ⟨_, rfl⟩
  have hn4 : n < 32 := by have := tkN_lt bs k 5; omega
  have HP : Hid (pBks bs k = rep (pB bs) n (k + 5)) := Lib.hid (by unfold pBks; rw [hn])
  rw [hn] at HT
  have hn4' : (n : Int) ≤ 32 := by omega
  have HK := Lib.hid hk
  clear h hn hk
  go_enter Tryz.func112, Tryz.ntmps112
  go_wp2_with fail
  refine HT.out.mono ?_
  rintro e w1 ⟨rfl, h1, h2⟩
  have H1 : Hid (Src w1 98 B s bs (rep (pB bs) 0 (k + 5)).2) := Lib.hid h1
  have H2 := Lib.hid h2
  clear h1 h2
  go_wp2_with fail
  go_loopw [3, 6] (fun v i wr => ∃ (j : Nat) (al : Option Addr) (cl : Nat), j ≤ n ∧ i = .int .u64 (j : Int) ∧ v = .slice al j cl ∧ Hid (Lb wr w.heap.size (.slice al j cl) (rep (pB bs) j (k + 5)).1) ∧ Hid (Src wr 98 B s bs (rep (pB bs) j (k + 5)).2) ∧ Hid (Chg [s] w wr)) (fun _ i _ => n - (intOf i).toNat)
  case atStart => exact ⟨0, none, 0, Nat.zero_le _, rfl, rfl, Lib.hid (Lb.nil _ _), H1, H2⟩
  case round =>
    obtain ⟨j, al, cl, hj, rfl, rfl, HL, HX, HC⟩ := hrel
    rename World => w6
    by_cases hlt : j < n
    · have hj0 : (0 : Int) ≤ (j : Int) := by omega
      have hj1 : (j : Int) < (n : Int) := by omega
      have HR : Hid (rep (pB bs) (j + 1) (k + 5) = ((rep (pB bs) j (k + 5)).1 ++ [(pB bs (rep (pB bs) j (k + 5)).2).1], (pB bs (rep (pB bs) j (k + 5)).2).2)) := Lib.hid rfl
      have HLn : Hid ((rep (pB bs) j (k + 5)).1.length = j) := Lib.hid (by rw [rep_length])
      have HQ := pB_at bs j (k + 5)
      generalize rep (pB bs) j (k + 5) = r at *
      obtain ⟨xs, q⟩ := r
      simp only at HR HL HX HLn HQ
      have HTK := Lib.hid (mbackF_any bs B s q w6 HX.out (by have := HK.out; omega))
      generalize pB bs q = y at *
      obtain ⟨⟨y1, y2, y3⟩, q'⟩ := y
      simp only at HR HTK
      clear HQ
      go_wp2_with fail
      refine HTK.out.mono ?_
      rintro e w7 ⟨rfl, h1, h2⟩
      have hrow := fun x (hx : x ∈ rowOf (.slice al j cl)) => (HL.out.row x hx).1
      have hns : s ∉ rowOf (.slice al j cl) := fun hx => by have := hrow s hx; have := HZ.out; omega
      have HRW := Lib.hid hrow
      have HNS := Lib.hid hns
      clear hrow hns
      obtain ⟨W7, hW7⟩ : ∃ W7, w7.alloc (.cells #[.int .i64 y1, .int .u64 (y2 : Int), .int .u64 (y3 : Int)] 96) = W7 := ⟨_, rfl⟩
      obtain ⟨g, hg⟩ : ∃ g, w7.heap.size = g := ⟨_, rfl⟩
      have HG : Hid (Own W7 g 96 (bcs [(y1, y2, y3)])) := Lib.hid (by rw [← hW7, ← hg]; exact Own.new w7 _ _)
      have H1 := Lib.hid (h1.new0 (w' := W7) (by rw [← hW7]; exact (Chg.refl [] w7).alloc _))
      have HC7 : Hid (Chg [s] w W7) := Lib.hid (by rw [← hW7]; exact (HC.out.trans h2).alloc _)
      have HL7 : Hid (Lb W7 w.heap.size (.slice al j cl) xs) := Lib.hid (by rw [← hW7]; exact (HL.out.chg h2 (HX.out.notT (by decide))).alloc _)
      have HWW := Lib.hid hW7
      have HGG := Lib.hid hg
      clear h1 h2 hW7 hg
      go_wp2_with (rw [HWW.out, HGG.out]; at_builtin; refine wpList_appBk rfl (.tmp 8) (.tmp 11) rfl w.heap.size (.slice al j cl) xs rfl HL7.out g (y1, y2, y3) 96 HG.out rfl (by have := HLn.out; omega) HC7.out.size ?_)
      intro v' w8 hl8 hc8
      have HX8 := Lib.hid (H1.out.chg hc8 HNS.out (fun x hx => by have := HRW.out x hx; have := H1.out.2.1; have := HZ.out; omega))
      have HC8 : Hid (Chg [s] w w8) := Lib.hid (HC7.out.then hc8 (fun x hx => .inr (HRW.out x hx)))
      have HLen : Hid ((xs ++ [(y1, y2, y3)]).length = j + 1) := Lib.hid (by rw [List.length_append, HLn.out]; rfl)
      clear hc8
      obtain ⟨a8, c8, hv8, _, _⟩ := hl8.out.form
      rw [HLen.out] at hv8
      subst hv8
      go_wp2_with fail
      go_roundw
      case rel => exact ⟨j + 1, a8, c8, by omega, by go_num, rfl, by rw [HR.out]; exact hl8, by rw [HR.out]; exact HX8, HC8⟩
      case measure => simp [intOf]; omega
    · obtain rfl : j = n := by omega
      go_wp2_with fail
      go_ret
      rw [HP.out]
      have e : (rep (pB bs) j (k + 5)).1.length = j := rep_length _ _ _
      rw [e]
      exact ⟨al, cl, rfl, HL.out, HX.out, HC.out⟩
end Go.Proofs.YteenlkmnadjnpaaGreat
namespace Go.Proofs.YteenlkmnadjnpaaGreat
open Go.RowKit Go.Deep
set_option linter.unusedVariables false
set_option linter.unusedSimpArgs false

/-- where a walk that reads stands: k bits read, the result still empty -/
def Hd (w : World) (B s : Nat) (bs : List UInt8) (k : Nat) (W : World) : Prop := Src W 98 B s bs k ∧ Chg [s] w W ∧ Own W w.heap.size 40 zmT.cs
theorem Hd.step {w : World} {B s : Nat} {bs : List UInt8} {k k' : Nat} {W W' : World} (h : Hd w B s bs k W) (hs : s < w.heap.size) (h1 : Src W' 98 B s bs k') (h2 : Chg [s] W W') : Hd w B s bs k' W' :=
  ⟨h1, h.2.1.trans h2, h.2.2.chg h2 (by simp; omega)⟩
/-- the message that has just the numbers that it always has -/
def hdT (bs : List UInt8) : MgT := ⟨(tkN bs 0 4 : Nat), pPl bs 8, pPl bs 16, (tkN bs 24 20 : Nat), (tkN bs 4 4 : Nat), tkN bs 44 21, tkN bs 65 21, (tkN bs 86 8 : Nat), noC, none, 0, none, 0, [], none, 0, [], none, 0, pBa bs 94, pBa bs 112, ⟨0, none, 0, [], 0⟩⟩
set_option maxHeartbeats 4000000 in
set_option maxRecDepth 100000 in
theorem mheadF_any (bs : List UInt8) (B s : Nat) (w : World) (h : Src w 98 B s bs 0) :
    Calls Tryz.prog 110 #[nv s] w fun e w' => e = .returned (.agg (hdT bs).cs.toArray) ∧ Src w' 98 B s bs 130 ∧ Chg [s] w w' := by
  have eg := egT
  have HZ := Lib.hid h.lt
  have HB := Lib.hid h.2.1
  obtain ⟨W, HWW⟩ : ∃ W, Hid (w.alloc (.cells #[.int .i64 0, .int .i64 0, .int .i64 0, .int .i64 0, .int .i64 0, .int .i64 0, .int .i64 0, .int .u64 0, .int .u64 0, .int .i64 0, .int .i64 0, .slice none 0 0, .slice none 0 0, .slice none 0 0, .slice none 0 0, .int .i64 0, .int .i64 0, .int .i64 0, .int .i64 0, .int .u64 0, .slice none 0 0, .int .i64 0] 40) = W) := ⟨_, Lib.hid rfl⟩
  have hWc : Chg [] w W := by rw [← HWW.out]; exact (Chg.refl [] w).alloc _
  have H0 : Hid (Hd w B s bs 0 W) := Lib.hid ⟨h.new0 hWc, hWc.nil1 [s], by rw [← HWW.out]; exact Own.new w _ zmT.cs⟩
  have T0 : Hid (∀ W, Hd w B s bs 0 W → Calls Tryz.prog 53 #[.pointer (some ⟨s, 0, none⟩), .int .i64 4] W fun e w' => e = .returned (.int .u64 (tkN bs 0 4 : Nat)) ∧ Src w' 98 B s bs 4 ∧ Chg [s] W w') := Lib.hid fun W hW => mtake_any bs B s 0 4 W hW.1 (by omega) (by omega)
  have T1 : Hid (∀ W, Hd w B s bs 4 W → Calls Tryz.prog 53 #[.pointer (some ⟨s, 0, none⟩), .int .i64 4] W fun e w' => e = .returned (.int .u64 (tkN bs 4 4 : Nat)) ∧ Src w' 98 B s bs 8 ∧ Chg [s] W w') := Lib.hid fun W hW => mtake_any bs B s 4 4 W hW.1 (by omega) (by omega)
  have T2 : Hid (∀ W, Hd w B s bs 8 W → Calls Tryz.prog 139 #[nv s] W fun e w' => e = .returned (.agg #[.int .i64 (tkN bs 8 3 : Nat), .int .i64 (tkN bs (8 + 3) 5 : Nat)]) ∧ Src w' 98 B s bs 16 ∧ Chg [s] W w') := Lib.hid fun W hW => mplaceF_any bs B s 8 W hW.1 (by omega)
  have T3 : Hid (∀ W, Hd w B s bs 16 W → Calls Tryz.prog 139 #[nv s] W fun e w' => e = .returned (.agg #[.int .i64 (tkN bs 16 3 : Nat), .int .i64 (tkN bs (16 + 3) 5 : Nat)]) ∧ Src w' 98 B s bs 24 ∧ Chg [s] W w') := Lib.hid fun W hW => mplaceF_any bs B s 16 W hW.1 (by omega)
  have T4 : Hid (∀ W, Hd w B s bs 24 W → Calls Tryz.prog 53 #[.pointer (some ⟨s, 0, none⟩), .int .i64 20] W fun e w' => e = .returned (.int .u64 (tkN bs 24 20 : Nat)) ∧ Src w' 98 B s bs 44 ∧ Chg [s] W w') := Lib.hid fun W hW => mtake_any bs B s 24 20 W hW.1 (by omega) (by omega)
  have T5 : Hid (∀ W, Hd w B s bs 44 W → Calls Tryz.prog 53 #[.pointer (some ⟨s, 0, none⟩), .int .i64 21] W fun e w' => e = .returned (.int .u64 (tkN bs 44 21 : Nat)) ∧ Src w' 98 B s bs 65 ∧ Chg [s] W w') := Lib.hid fun W hW => mtake_any bs B s 44 21 W hW.1 (by omega) (by omega)
  have T6 : Hid (∀ W, Hd w B s bs 65 W → Calls Tryz.prog 53 #[.pointer (some ⟨s, 0, none⟩), .int .i64 21] W fun e w' => e = .returned (.int .u64 (tkN bs 65 21 : Nat)) ∧ Src w' 98 B s bs 86 ∧ Chg [s] W w') := Lib.hid fun W hW => mtake_any bs B s 65 21 W hW.1 (by omega) (by omega)
  have T7 : Hid (∀ W, Hd w B s bs 86 W → Calls Tryz.prog 53 #[.pointer (some ⟨s, 0, none⟩), .int .i64 8] W fun e w' => e = .returned (.int .u64 (tkN bs 86 8 : Nat)) ∧ Src w' 98 B s bs 94 ∧ Chg [s] W w') := Lib.hid fun W hW => mtake_any bs B s 86 8 W hW.1 (by omega) (by omega)
  have T8 : Hid (∀ W, Hd w B s bs 94 W → Calls Tryz.prog 140 #[nv s] W fun e w' => e = .returned (.agg #[.int .i64 (tkN bs 94 16 : Nat), .int .i64 (tkN bs (94 + 16) 2 : Nat)]) ∧ Src w' 98 B s bs 112 ∧ Chg [s] W w') := Lib.hid fun W hW => mballotF_any bs B s 94 W hW.1 (by omega)
  have T9 : Hid (∀ W, Hd w B s bs 112 W → Calls Tryz.prog 140 #[nv s] W fun e w' => e = .returned (.agg #[.int .i64 (tkN bs 112 16 : Nat), .int .i64 (tkN bs (112 + 16) 2 : Nat)]) ∧ Src w' 98 B s bs 130 ∧ Chg [s] W w') := Lib.hid fun W hW => mballotF_any bs B s 112 W hW.1 (by omega)
  unfold hdT pPl pBa
  have v0 := tkN_lt bs 0 4
  generalize tkN bs 0 4 = a0 at *
  have e0 := i64_small a0 (by omega)
  clear v0
  have v1 := tkN_lt bs 4 4
  generalize tkN bs 4 4 = a1 at *
  have e1 := i64_small a1 (by omega)
  clear v1
  generalize tkN bs 8 3 = a2 at *
  generalize tkN bs (8 + 3) 5 = b2 at *
  generalize tkN bs 16 3 = a3 at *
  generalize tkN bs (16 + 3) 5 = b3 at *
  have v4 := tkN_lt bs 24 20
  generalize tkN bs 24 20 = a4 at *
  have e4 := i64_small a4 (by omega)
  clear v4
  have v5 := tkN_lt bs 44 21
  generalize tkN bs 44 21 = a5 at *
  clear v5
  have v6 := tkN_lt bs 65 21
  generalize tkN bs 65 21 = a6 at *
  clear v6
  have v7 := tkN_lt bs 86 8
  generalize tkN bs 86 8 = a7 at *
  have e7 := i64_small a7 (by omega)
  clear v7
  generalize tkN bs 94 16 = a8 at *
  generalize tkN bs (94 + 16) 2 = b8 at *
  generalize tkN bs 112 16 = a9 at *
  generalize tkN bs (112 + 16) 2 = b9 at *
  clear h hWc
  go_enter Tryz.func110, Tryz.ntmps110
  go_upto_region 1 with fail
  rw [HWW.out]
  go_wp2_with fail
  refine (T0.out W H0.out).mono ?_
  rintro e w1 ⟨rfl, h1, h2⟩
  have H1 := Lib.hid (H0.out.step HZ.out h1 h2)
  clear h1 h2
  go_wp2_with fail
  refine (T1.out w1 H1.out).mono ?_
  rintro e w2 ⟨rfl, h1, h2⟩
  have H2 := Lib.hid (H1.out.step HZ.out h1 h2)
  clear h1 h2
  go_wp2_with fail
  refine (T2.out w2 H2.out).mono ?_
  rintro e w3 ⟨rfl, h1, h2⟩
  have H3 := Lib.hid (H2.out.step HZ.out h1 h2)
  clear h1 h2
  go_wp2_with fail
  refine (T3.out w3 H3.out).mono ?_
  rintro e w4 ⟨rfl, h1, h2⟩
  have H4 := Lib.hid (H3.out.step HZ.out h1 h2)
  clear h1 h2
  go_wp2_with fail
  refine (T4.out w4 H4.out).mono ?_
  rintro e w5 ⟨rfl, h1, h2⟩
  have H5 := Lib.hid (H4.out.step HZ.out h1 h2)
  clear h1 h2
  go_wp2_with fail
  refine (T5.out w5 H5.out).mono ?_
  rintro e w6 ⟨rfl, h1, h2⟩
  have H6 := Lib.hid (H5.out.step HZ.out h1 h2)
  clear h1 h2
  go_wp2_with fail
  refine (T6.out w6 H6.out).mono ?_
  rintro e w7 ⟨rfl, h1, h2⟩
  have H7 := Lib.hid (H6.out.step HZ.out h1 h2)
  clear h1 h2
  go_wp2_with fail
  refine (T7.out w7 H7.out).mono ?_
  rintro e w8 ⟨rfl, h1, h2⟩
  have H8 := Lib.hid (H7.out.step HZ.out h1 h2)
  clear h1 h2
  go_wp2_with fail
  refine (T8.out w8 H8.out).mono ?_
  rintro e w9 ⟨rfl, h1, h2⟩
  have H9 := Lib.hid (H8.out.step HZ.out h1 h2)
  clear h1 h2
  go_wp2_with fail
  refine (T9.out w9 H9.out).mono ?_
  rintro e w10 ⟨rfl, h1, h2⟩
  have H10 := Lib.hid (H9.out.step HZ.out h1 h2)
  clear h1 h2
  have HO := Lib.hid H10.out.2.2
  go_wp2_with (refine wpList_storeMg rfl (.tmp 2) (.tmp 27) rfl w.heap.size rfl ⟨a0, (a2, b2), (a3, b3), a4, a1, a5, a6, a7, noC, none, 0, none, 0, [], none, 0, [], none, 0, (a8, b8), (a9, b9), ⟨0, none, 0, [], 0⟩⟩ rfl zmT.cs HO.out rfl ?_)
  intro w1 ho hc
  have HO3 := Lib.hid ho
  have HQ : Hid (Src w1 98 B s bs 130 ∧ Chg [s] w w1) := Lib.hid ⟨H10.out.1.chg hc (by have := HZ.out; simp; omega) (fun x hx => by simp only [List.mem_singleton] at hx; subst hx; have := HZ.out; have := HB.out; omega), H10.out.2.1.then hc (fun x hx => by simp only [List.mem_singleton] at hx; subst hx; exact .inr (Nat.le_refl _))⟩
  clear ho hc
  go_wp2_with fail
  refine bodyPost_ret (results_cell_row Tryz.results110 _ _ w.heap.size 40 _ (0, 0) _ rfl HO3.out Tryz.underlying40 rfl (by kernel_rfl)) rfl ?_
  exact ⟨rfl, HQ.out⟩
end Go.Proofs.YteenlkmnadjnpaaGreat
