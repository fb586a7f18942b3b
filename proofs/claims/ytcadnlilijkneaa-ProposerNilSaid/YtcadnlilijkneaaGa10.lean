/-
  copyOf of package acceptor, walked. No claim of its own.
-/
import Derived.Test.YtcadnlilijkneaaGa9
import Derived.Test.YtcadnlilijkneaaGa8
import Derived.Deep.AppendLies
import Derived.Great.BuildSlice
import Derived.Test.YtcadnlilijkneaaGa1
import Derived.Maps.OwnIn
import Derived.Maps.OwnSet
import Derived.Maps.Ext
import Derived.Lib.SlKeysI
import Derived.Deep.RegionHeld3
namespace Go.Proofs.Ytcadnlilijkneaa
open Go.RowKit Go.Deep Go.Shelf
set_option linter.unusedVariables false
set_option linter.unusedSimpArgs false

theorem low_chg {a w : World} (h : Below a.heap.size a w) : Chg [] a w := (Chg.refl [] a).of_below h
/-- a row whose block has a property -/
def RoP (w : World) (P : Nat → Prop) (a : Option Addr) (vs : List Value) : Prop := vs = [] ∨ ∃ b off, a = some ⟨b, off, none⟩ ∧ b < w.heap.size ∧ P b ∧ ∀ i, i < vs.length → w.cell? ⟨b, off + i, none⟩ = some (vs.getD i undef)
theorem RoP.ro {w : World} {P : Nat → Prop} {a : Option Addr} {vs : List Value} (h : RoP w P a vs) : Ro w w.heap.size a vs := by
  rcases h with h | ⟨b, off, h1, h2, h3, h4⟩
  · exact .inl h
  · exact .inr ⟨b, off, h1, h2, h4⟩
theorem RoP.chg {w w' : World} {P : Nat → Prop} {l : List Nat} {a : Option Addr} {vs : List Value} (h : RoP w P a vs) (hc : Chg l w w') (hl : ∀ x, P x → x ∉ l) : RoP w' P a vs := by
  rcases h with h | ⟨b, off, h1, h2, h3, h4⟩
  · exact .inl h
  · exact .inr ⟨b, off, h1, Nat.lt_of_lt_of_le h2 hc.size, h3, fun i hi => hc.cell (h4 i hi) (hl b h3)⟩
theorem RoP.mono {w : World} {P P' : Nat → Prop} {a : Option Addr} {vs : List Value} (h : RoP w P a vs) (hp : ∀ x, x < w.heap.size → P x → P' x) : RoP w P' a vs := by
  rcases h with h | ⟨b, off, h1, h2, h3, h4⟩
  · exact .inl h
  · exact .inr ⟨b, off, h1, h2, hp b h2 h3, h4⟩
theorem Ro.roP {w : World} {B : Nat} {a : Option Addr} {vs : List Value} (h : Ro w B a vs) (hB : B ≤ w.heap.size) : RoP w (fun x => x < B) a vs := by
  rcases h with h | ⟨b, off, h1, h2, h3⟩
  · exact .inl h
  · exact .inr ⟨b, off, h1, by omega, h2, h3⟩
theorem Lst.roP {w : World} {base : Nat} {e : TypeId} {a : Option Addr} {n c : Nat} {xs : List Value} (h : Lst w base e (.slice a n c) xs) : RoP w (fun x => base ≤ x) a xs := by
  obtain ⟨a', c', h1, h2, _⟩ := h.form
  injection h1 with h1 _ _
  subst h1
  rcases h2 with h2 | ⟨b, off, g1, g2, g3⟩
  · exact .inl h2
  · refine .inr ⟨b, off, g1, g2, ?_, g3⟩
    have := h.row b (by rw [g1]; simp [rowOf, Value.ownBlock])
    exact this.1
theorem Sl.roP {w : World} {base : Nat} {a : Option Addr} {n c : Nat} {L : List SgT} (h : Sl w base (.slice a n c) L) : RoP w (fun x => base ≤ x) a (sgv L) := by
  obtain ⟨a', c', h1, h2, _⟩ := h.form
  injection h1 with h1 _ _
  subst h1
  rcases h2 with h2 | ⟨b, off, g1, g2, g3⟩
  · exact .inl h2
  · refine .inr ⟨b, off, g1, g2, ?_, g3⟩
    have := h.row b (by rw [g1]; simp [rowOf, Value.ownBlock])
    exact this.1
/-- a layout whose blocks have a property -/
def LyP (w : World) (P : Nat → Prop) (A : LyT) : Prop := RoP w P A.a (sgv A.sg) ∧ ∀ s ∈ A.sg, RoP w P s.a (chv s.ch) ∧ ∀ c ∈ s.ch, RoP w P c.a (i64s c.u)
theorem LyP.inn {w : World} {P : Nat → Prop} {A : LyT} (h : LyP w P A) : LyIn w w.heap.size A := ⟨h.1.ro, fun s hs => ⟨(h.2 s hs).1.ro, fun c hc => ((h.2 s hs).2 c hc).ro⟩⟩
theorem LyP.chg {w w' : World} {P : Nat → Prop} {l : List Nat} {A : LyT} (h : LyP w P A) (hc : Chg l w w') (hl : ∀ x, P x → x ∉ l) : LyP w' P A := ⟨h.1.chg hc hl, fun s hs => ⟨(h.2 s hs).1.chg hc hl, fun c hm => ((h.2 s hs).2 c hm).chg hc hl⟩⟩
theorem LyP.mono {w : World} {P P' : Nat → Prop} {A : LyT} (h : LyP w P A) (hp : ∀ x, x < w.heap.size → P x → P' x) : LyP w P' A := ⟨h.1.mono hp, fun s hs => ⟨(h.2 s hs).1.mono hp, fun c hm => ((h.2 s hs).2 c hm).mono hp⟩⟩
theorem LyIn.lyP {w : World} {B : Nat} {A : LyT} (h : LyIn w B A) (hB : B ≤ w.heap.size) : LyP w (fun x => x < B) A := ⟨h.1.roP hB, fun s hs => ⟨(h.2 s hs).1.roP hB, fun c hm => ((h.2 s hs).2 c hm).roP hB⟩⟩
/-- of no segments, or small -/
def LyS (A : LyT) : Prop := (A.sg = [] ∧ A.a = none ∧ A.c = 0) ∨ LySm A
theorem sgx_app (A B : List SgT) : sgx (A ++ B) = sgx A ++ sgx B := by simp [sgx]
theorem chx_app (A B : List ChT) : chx (A ++ B) = chx A ++ chx B := by simp [chx]
theorem st_at {A B : List SgT} {x : SgT} {k : Nat} (h : A.length = k) : st (A ++ x :: B) k = x := by
  subst h
  simp [st, List.getD]
theorem drop_st {L : List SgT} {k : Nat} (h : k < L.length) : L.drop k = st L k :: L.drop (k + 1) := by
  rw [List.drop_eq_getElem_cons h]
  congr 1
  simp [st, List.getD, h]
theorem drop_ct {L : List ChT} {k : Nat} (h : k < L.length) : L.drop k = ct L k :: L.drop (k + 1) := by
  rw [List.drop_eq_getElem_cons h]
  congr 1
  simp [ct, List.getD, h]
theorem Sl.at_ {w : World} {base g n c : Nat} {L : List SgT} (h : Sl w base (.slice (some ⟨g, 0, none⟩) n c) L) (i : Nat) (hi : i < L.length) : w.cell? ⟨g, i * 2, none⟩ = some (.int .u64 ((st L i).f : Int)) ∧ w.cell? ⟨g, i * 2 + 1, none⟩ = some (.slice (st L i).a (st L i).ch.length (st L i).c) := by
  obtain ⟨a', c', h1, h2, _⟩ := h.form
  injection h1 with h1 _ _
  subst h1
  obtain ⟨b, off, g1, _, g3⟩ := h2.sg (by omega)
  injection g1 with g1
  injection g1 with g1 g2 _
  subst g1 g2
  have := g3 i hi
  simpa using this
theorem Lst.at_ {w : World} {base g n c : Nat} {e : TypeId} {L : List Value} (h : Lst w base e (.slice (some ⟨g, 0, none⟩) n c) L) (i : Nat) (hi : i < L.length) : w.cell? ⟨g, i, none⟩ = some (L.getD i undef) := by
  obtain ⟨a', c', h1, h2, _⟩ := h.form
  injection h1 with h1 _ _
  subst h1
  rcases h2 with h2 | ⟨b, off, g1, g2, g3⟩
  · rw [h2] at hi; simp at hi
  · injection g1 with g1
    injection g1 with g1 go _
    subst g1 go
    simpa using g3 i hi
theorem chv_set (A : List ChT) (x y : ChT) (B : List ChT) : (chv (A ++ x :: B)).set A.length y.val = chv (A ++ y :: B) := by
  unfold chv
  rw [List.map_append, List.map_append, List.set_append, if_neg (by simp)]
  simp
theorem Own.notLst {w : World} {g : Nat} {t e : TypeId} {cs xs : List Value} {base g' n c : Nat} (h : Own w g t cs) (hl : Lst w base e (.slice (some ⟨g', 0, none⟩) n c) xs) (hne : e ≠ t) : g ≠ g' := by
  intro he
  subst he
  obtain ⟨_, cur, h2⟩ := hl.row g (by simp [rowOf, Value.ownBlock])
  unfold Own at h
  rw [h] at h2
  injection h2 with h2
  injection h2 with _ h2 _
  exact hne h2.symm
theorem Own.notSl {w : World} {g : Nat} {t : TypeId} {cs : List Value} {L : List SgT} {base g' n c : Nat} (h : Own w g t cs) (hl : Sl w base (.slice (some ⟨g', 0, none⟩) n c) L) (hne : 67 ≠ t) : g ≠ g' := by
  intro he
  subst he
  obtain ⟨_, cur, h2⟩ := hl.row g (by simp [rowOf, Value.ownBlock])
  unfold Own at h
  rw [h] at h2
  injection h2 with h2
  injection h2 with _ h2 _
  exact hne h2.symm
set_option maxHeartbeats 4000000 in
theorem copyA_sm (A : LyT) (B : Nat) (w : World) (h : LyIn w B A) (hB : B ≤ w.heap.size) (hs : LySm A) :
    Calls Try.prog 16 #[A.val] w fun e w' => ∃ A' : LyT, e = .returned A'.val ∧ A'.x = A.x ∧ A'.sg.length = A.sg.length ∧ LyP w' (fun x => w.heap.size ≤ x) A' ∧ Chg [] w w' := by
  obtain ⟨ae, a, c, L, q⟩ := A
  obtain ⟨W, HW⟩ : ∃ W, Hid ((w.alloc (.cells #[.int .u64 (ae : Int), .slice a L.length c, .int .i64 q] 38)).alloc (.cells #[.int .u64 0, .slice none 0 0, .int .i64 0] 38) = W) := ⟨_, Lib.hid rfl⟩
  have hb : Below w.heap.size w W := by rw [← HW.out]; exact (((Chg.refl [] w).alloc _).alloc _).low
  have ho0 : Own W w.heap.size 38 [.int .u64 (ae : Int), .slice a L.length c, .int .i64 q] := by rw [← HW.out]; exact (Own.new w _ _).alloc _
  have ho1 : Own W (w.heap.size + 1) 38 [.int .u64 0, .slice none 0 0, .int .i64 0] := by
    rw [← HW.out]
    have := Own.new (w.alloc (.cells #[.int .u64 (ae : Int), .slice a L.length c, .int .i64 q] 38)) 38 [.int .u64 0, .slice none 0 0, .int .i64 0]
    simpa using this
  have hsz : W.heap.size = w.heap.size + 2 := by rw [← HW.out]; simp
  simp only [LyT.val, LyT.x] at *
  have HIN := Lib.hid h.2
  have HCS := Lib.hid (cloneS_any a c B L W (h.1.below hb hB) hs.n.1 (by have := hs.n.2; simp only at this; omega))
  have HSM := Lib.hid hs.s
  obtain ⟨n, HN⟩ : ∃ n, Hid (L.length = n) := ⟨_, Lib.hid rfl⟩
  have hn1 : (n : Int) ≤ 4 := by have := hs.n.2; have := HN.out; simp only at *; omega
  have HBW := Lib.hid hB
  rw [HN.out] at HCS HW ho0 ⊢
  have c1 := ho0.cell 1
  have f1 := ho0.frozen 1
  simp at c1
  have HO := Lib.hid (And.intro ho0 (And.intro ho1 hb))
  have HSZ := Lib.hid hsz
  clear h hB hs hb ho0 ho1 hsz
  go_enter Try.func16, Try.ntmps16
  go_upto_region 1 with fail
  rw [HW.out]
  go_wp2_with fail
  refine HCS.out.mono ?_
  rintro e w1 ⟨g, c', rfl, hl1, hb1⟩
  have d1 := cell_keep hb1 c1 (World.block_lt_of_cell? _ _ c1)
  have e1 : w1.frozen? ⟨w.heap.size, 1, none⟩ = false := (HO.out.1.below hb1 HO.out.1.lt).frozen 1
  have HL1 := Lib.hid hl1
  have HB1 := Lib.hid hb1
  have hb1s : w.heap.size ≤ W.heap.size := HO.out.2.2.size
  clear hl1 hb1 c1 f1
  have HO1 : Hid (Own (w1.setCell ⟨w.heap.size, 1, none⟩ (.slice (some ⟨g, 0, none⟩) n c')) w.heap.size 38 [.int .u64 (ae : Int), .slice (some ⟨g, 0, none⟩) n c', .int .i64 q]) := Lib.hid (by simpa using (HO.out.1.below HB1.out HO.out.1.lt).set 1 _)
  have HO2 : Hid (Own (w1.setCell ⟨w.heap.size, 1, none⟩ (.slice (some ⟨g, 0, none⟩) n c')) (w.heap.size + 1) 38 [.int .u64 0, .slice none 0 0, .int .i64 0]) := Lib.hid ((HO.out.2.1.below HB1.out HO.out.2.1.lt).far (by simp) _)
  have HG : Hid (w.heap.size ≤ g) := Lib.hid (Nat.le_trans hb1s (HL1.out.row g (by simp [rowOf, Value.ownBlock])).1)
  have HSL1 : Hid (Sl (w1.setCell ⟨w.heap.size, 1, none⟩ (.slice (some ⟨g, 0, none⟩) n c')) w.heap.size (.slice (some ⟨g, 0, none⟩) n c') L) := Lib.hid (by
    have h9 := (HL1.out.base hb1s).chgc ((Chg.refl [w.heap.size] w1).setCell (p := ⟨w.heap.size, 1, none⟩) (by simp) (.slice (some ⟨g, 0, none⟩) n c')) ((HO.out.1.below HB1.out HO.out.1.lt).notT' (by decide))
    exact h9)
  have HB2 : Hid (Below w.heap.size w (w1.setCell ⟨w.heap.size, 1, none⟩ (.slice (some ⟨g, 0, none⟩) n c'))) := Lib.hid ((HO.out.2.2.trans (HB1.out.mono hb1s)).setCell (Nat.le_refl _) _)
  go_upto_region 2 with fail
  generalize w1.setCell ⟨w.heap.size, 1, none⟩ (.slice (some ⟨g, 0, none⟩) n c') = w3 at HO1 HO2 HSL1 HB2 ⊢
  have c3 := HO1.out.cell 1
  simp at c3
  go_wp2_with fail
  clear c3
  go_loopw [15] (fun i wr => ∃ (k : Nat) (Gs : List SgT), k ≤ n ∧ i = .int .i64 (k : Int) ∧ Hid (Gs.length = k ∧ sgx Gs = (sgx L).take k) ∧ Hid (Sl wr w.heap.size (.slice (some ⟨g, 0, none⟩) n c') (Gs ++ L.drop k)) ∧ Hid (GwS wr w.heap.size Gs) ∧ Hid (Own wr w.heap.size 38 [.int .u64 (ae : Int), .slice (some ⟨g, 0, none⟩) n c', .int .i64 q] ∧ Own wr (w.heap.size + 1) 38 [.int .u64 0, .slice none 0 0, .int .i64 0]) ∧ Hid (Below w.heap.size w wr)) (fun i _ => n - (Go.RowKit.intOf i).toNat)
  case atStart => exact ⟨0, [], Nat.zero_le _, rfl, Lib.hid ⟨rfl, by simp [sgx]⟩, by simpa using HSL1, Lib.hid (fun _ h => by cases h), Lib.hid ⟨HO1.out, HO2.out⟩, HB2⟩
  case round =>
    obtain ⟨k, Gs, hk, rfl, HK, HLk, HGk, HOk, HBk⟩ := hrel
    rename World => wr
    by_cases hlt : k < n
    · have hkL : k < L.length := by rw [HN.out]; exact hlt
      have hst : st (Gs ++ L.drop k) k = st L k := by rw [drop_st hkL]; exact st_at HK.out.1
      have hat := HLk.out.at_ k (by rw [List.length_append, List.length_drop, HK.out.1, HN.out]; omega)
      rw [hst] at hat
      obtain ⟨q0, q1⟩ := hat
      have HRT := Lib.hid ((HIN.out (st L k) (st_mem hkL)).1.below HBk.out HBW.out)
      have HCT := Lib.hid ((HIN.out (st L k) (st_mem hkL)).2.below HBk.out HBW.out)
      have HSk := Lib.hid (HSM.out k hkL)
      have HDR := Lib.hid (drop_st hkL)
      have HXK : Hid ((sgx L).take (k + 1) = (sgx L).take k ++ [(st L k).x]) := Lib.hid (by
        have hk9 : k < (sgx L).length := by simpa using hkL
        rw [List.take_succ_eq_append_getElem hk9]
        congr 2
        simp [sgx, st, List.getD, hkL])
      have hk0 : (0 : Int) ≤ (k : Int) := by omega
      have hk1 : (k : Int) < (n : Int) := by omega
      have h0 := HOk.out.1.cell 1
      simp at h0
      clear hst hkL
      generalize st L k = S0 at *
      obtain ⟨sf, sa, sc, sch⟩ := S0
      simp only at q0 q1 HRT HCT HSk
      obtain ⟨m, HM⟩ : ∃ m, Hid (sch.length = m) := ⟨_, Lib.hid rfl⟩
      have hm1 : (m : Int) ≤ 4 := by have := HSk.out.1.2; have := HM.out; omega
      rw [HM.out] at q1
      have HCC : Hid (∀ W, Below wr.heap.size wr W → Calls Try.prog 25 #[.slice sa m sc] W fun e w' => ∃ g c', e = .returned (.slice (some ⟨g, 0, none⟩) m c') ∧ Lst w' W.heap.size 33 (.slice (some ⟨g, 0, none⟩) m c') (chv sch) ∧ Below W.heap.size W w') := Lib.hid (fun W hW => by
        have h9 := cloneC_any sa sc B sch W (HRT.out.below hW (Nat.le_trans HBW.out HBk.out.size)) HSk.out.1.1 (by have := HSk.out.1.2; omega)
        rw [HM.out] at h9
        exact h9)
      have HCI : Hid (∀ W, Below wr.heap.size wr W → ∀ T ∈ sch, Calls Try.prog 26 #[.slice T.a T.u.length T.c] W fun e w' => ∃ v, e = .returned v ∧ Lst w' W.heap.size 3 v (i64s T.u) ∧ Below W.heap.size W w') := Lib.hid (fun W hW T hT =>
        clone_int T.a T.c B T.u W ((HCT.out T hT).below hW (Nat.le_trans HBW.out HBk.out.size)) (HSk.out.2 T hT).1 (by have := (HSk.out.2 T hT).2; omega))
      have HA := Lib.hid ((Chg.refl [] wr).alloc (.cells #[.int .u64 (sf : Int), .slice sa m sc] 67)).low
      go_wp2_with fail
      refine (HCC.out _ HA.out).mono ?_
      rintro e w4 ⟨g2, c2, rfl, hl4, hb4⟩
      have hz4 : wr.heap.size ≤ (wr.alloc (.cells #[.int .u64 (sf : Int), .slice sa m sc] 67)).heap.size := HA.out.size
      have HL4 := Lib.hid (hl4.base hz4)
      have HB4 : Hid (Below wr.heap.size wr w4) := Lib.hid (HA.out.trans (hb4.mono hz4))
      clear hl4 hb4 hz4 q0 q1
      go_wp2_with fail
      rename World => w4
      go_loopw [25] (fun i wq => ∃ (j : Nat) (Ts : List ChT), j ≤ m ∧ i = .int .i64 (j : Int) ∧ Hid (Ts.length = j ∧ chx Ts = (chx sch).take j) ∧ Hid (Lst wq wr.heap.size 33 (.slice (some ⟨g2, 0, none⟩) m c2) (chv (Ts ++ sch.drop j))) ∧ Hid (GwC wq wr.heap.size Ts) ∧ Hid (Below wr.heap.size wr wq)) (fun i _ => m - (Go.RowKit.intOf i).toNat)
      case atStart => exact ⟨0, [], Nat.zero_le _, rfl, Lib.hid ⟨rfl, by simp [chx]⟩, by simpa using HL4, Lib.hid (fun _ h => by cases h), HB4⟩
      case round =>
        obtain ⟨j, Ts, hj, rfl, HJ, HLj, HGj, HBj⟩ := hrel
        rename World => wq
        by_cases hlt2 : j < m
        · have hjL : j < sch.length := by rw [HM.out]; exact hlt2
          have hlen : (chv (Ts ++ sch.drop j)).length = m := by rw [chv_length, List.length_append, List.length_drop, HJ.out.1, HM.out]; omega
          have e1 := HLj.out.at_ j (by omega)
          have ek : (chv (Ts ++ sch.drop j)).getD j undef = (ct sch j).val := by
            unfold chv
            rw [drop_ct hjL, List.map_append, List.map_cons]
            simp [List.getD, List.getElem?_append_right, HJ.out.1]
          rw [ek] at e1
          have HC := Lib.hid (HCI.out wq HBj.out (ct sch j) (ct_mem hjL))
          have HDC := Lib.hid (drop_ct hjL)
          have HXJ : Hid ((chx sch).take (j + 1) = (chx sch).take j ++ [(ct sch j).u]) := Lib.hid (by rw [cx_take (by simpa using hjL), cx_chx])
          have HLEN := Lib.hid hlen
          have hj0 : (0 : Int) ≤ (j : Int) := by omega
          have hj1 : (j : Int) < (m : Int) := by omega
          clear ek hlen hjL
          generalize ct sch j = T0 at *
          obtain ⟨ta, tc, tu⟩ := T0
          simp only [ChT.val] at e1 HC
          generalize tu.length = tn at e1 HC
          go_wp2_with fail
          refine HC.out.mono ?_
          rintro e w5 ⟨v5, rfl, hl5, hb5⟩
          obtain ⟨a5, c5, hv5, _, _⟩ := hl5.form
          rw [i64s_length] at hv5
          have HV5 : Hid (v5 = ChT.val ⟨a5, c5, tu⟩) := Lib.hid hv5
          have HL5 : Hid (Lst w5 wr.heap.size 3 (ChT.val ⟨a5, c5, tu⟩) (i64s tu)) := Lib.hid (by rw [← HV5.out]; exact hl5.base HBj.out.size)
          have HB5 : Hid (Below wr.heap.size wr w5) := Lib.hid (HBj.out.trans (hb5.mono HBj.out.size))
          have HLj5 : Hid (Lst w5 wr.heap.size 33 (.slice (some ⟨g2, 0, none⟩) m c2) (chv (Ts ++ sch.drop j))) := Lib.hid (HLj.out.below hb5 (Nat.le_refl _))
          have HGj5 : Hid (GwC w5 wr.heap.size Ts) := Lib.hid (fun T hT => (HGj.out T hT).below hb5 (Nat.le_refl _))
          have f5 := HLj5.out.frozen j
          have hy := cell_keep hb5 e1 (World.block_lt_of_cell? _ _ e1)
          have hz5 := World.block_lt_of_cell? _ _ hy
          simp only at hz5
          clear hl5 hb5 e1
          subst hv5
          go_wp2_with fail
          go_roundw
          case rel =>
            refine ⟨j + 1, Ts ++ [⟨a5, c5, tu⟩], by omega, by go_num, Lib.hid ⟨by rw [List.length_append, HJ.out.1]; rfl, ?_⟩, Lib.hid ?_, Lib.hid ?_, Lib.hid (HB5.out.setCell ?_ _)⟩
            · rw [HXJ.out, ← HJ.out.2]; simp [chx]
            · have h9 := HLj5.out.set j (by rw [HLEN.out]; exact hlt2) (ChT.val ⟨a5, c5, tu⟩)
              rw [HDC.out, ← HJ.out.1, chv_set] at h9
              rw [HJ.out.1] at h9
              simpa [ChT.val] using h9
            · intro T hT
              have h1 : Lst w5 wr.heap.size 3 T.val (i64s T.u) := by
                rcases List.mem_append.1 hT with h | h
                · exact HGj5.out T h
                · simp only [List.mem_singleton] at h
                  subst h
                  exact HL5.out
              refine h1.chgc ((Chg.refl [g2] w5).setCell (by simp) _) (fun x hx cur he => ?_)
              simp only [List.mem_singleton] at hx
              subst hx
              obtain ⟨_, cur', h2⟩ := HLj5.out.row x (by simp [rowOf, Value.ownBlock])
              rw [he] at h2
              injection h2 with h2
              injection h2 with _ h2 _
              exact absurd h2 (by decide)
            · exact (HLj5.out.row g2 (by simp [rowOf, Value.ownBlock])).1
          case measure => simp [Go.RowKit.intOf]; omega
        · obtain rfl : j = m := by omega
          have HLj6 : Hid (Lst wq wr.heap.size 33 (.slice (some ⟨g2, 0, none⟩) j c2) (chv Ts)) := Lib.hid (by
            have h9 := HLj.out
            rwa [List.drop_of_length_le (by rw [HM.out]; exact Nat.le_refl _), List.append_nil] at h9)
          have HTL : Hid (Ts.length = j ∧ chx Ts = chx sch) := Lib.hid ⟨HJ.out.1, by rw [HJ.out.2, List.take_of_length_le (by rw [chx_length, HM.out]; exact Nat.le_refl _)]⟩
          have HOq : Hid (Own wq w.heap.size 38 [.int .u64 (ae : Int), .slice (some ⟨g, 0, none⟩) n c', .int .i64 q] ∧ Own wq (w.heap.size + 1) 38 [.int .u64 0, .slice none 0 0, .int .i64 0]) := Lib.hid ⟨HOk.out.1.below HBj.out HOk.out.1.lt, HOk.out.2.below HBj.out HOk.out.2.lt⟩
          have HLq : Hid (Sl wq w.heap.size (.slice (some ⟨g, 0, none⟩) n c') (Gs ++ L.drop k)) := Lib.hid (HLk.out.below HBj.out)
          have HGq : Hid (GwS wq w.heap.size Gs) := Lib.hid (fun T hT => ⟨(HGk.out T hT).1.below HBj.out (Nat.le_refl _), fun c hc => ((HGk.out T hT).2 c hc).below HBj.out (Nat.le_refl _)⟩)
          have c0 := HOq.out.1.cell 1
          simp at c0
          have hlk : (Gs ++ L.drop k).length = n := by rw [List.length_append, List.length_drop, HK.out.1, HN.out]; omega
          obtain ⟨c1, c2'⟩ := HLq.out.at_ k (by omega)
          have z2 := HLq.out.frozen (k * 2 + 1)
          have HLK := Lib.hid hlk
          clear hlk
          go_wp2_with fail
          go_roundw
          case rel =>
            have hT : Hid (Own wq g 67 (wq.heap[g]?.elim [] (fun o => match o with | .cells c _ _ => c.toList | _ => []))) := Lib.hid (by
              obtain ⟨_, cur, h2⟩ := HLq.out.row g (by simp [rowOf, Value.ownBlock])
              unfold Own
              rw [h2]
              simp)
            refine ⟨k + 1, Gs ++ [⟨sf, some ⟨g2, 0, none⟩, c2, Ts⟩], by omega, by go_num, Lib.hid ⟨by rw [List.length_append, HK.out.1]; rfl, ?_⟩, Lib.hid ?_, Lib.hid ?_, Lib.hid ⟨?_, ?_⟩, Lib.hid ((HBk.out.trans (HBj.out.mono HBk.out.size)).setCell ?_ _)⟩
            · rw [HXK.out, ← HK.out.2, sgx_app]
              congr 1
              simp only [sgx, List.map_cons, List.map_nil, SgT.x, HTL.out.2]
            · have h8 := HLq.out
              rw [HDR.out] at h8
              have h9 := h8.set (L' := Gs ++ ⟨sf, some ⟨g2, 0, none⟩, c2, Ts⟩ :: L.drop (k + 1)) (k * 2 + 1) (by rw [List.length_append, HK.out.1, List.length_cons]; omega) (.slice (some ⟨g2, 0, none⟩) Ts.length c2) (by simp) (by rw [← HK.out.1]; exact sgv_set Gs ⟨sf, sa, sc, sch⟩ ⟨sf, some ⟨g2, 0, none⟩, c2, Ts⟩ _ rfl)
              rw [HTL.out.1] at h9
              simpa using h9
            · have hk1 : GwS wq w.heap.size (Gs ++ [⟨sf, some ⟨g2, 0, none⟩, c2, Ts⟩]) := fun T hT => by
                rcases List.mem_append.1 hT with h | h
                · exact HGq.out T h
                · simp only [List.mem_singleton] at h
                  subst h
                  refine ⟨?_, fun c hc => (HGj.out c hc).base HBk.out.size⟩
                  show Lst wq w.heap.size _ (.slice (some ⟨g2, 0, none⟩) Ts.length c2) _
                  rw [HTL.out.1]
                  exact HLj6.out.base HBk.out.size
              exact hk1.chgc ((Chg.refl [g] wq).setCell (by simp) _) (hT.out.notT' (by decide)) (hT.out.notT' (by decide))
            · exact HOq.out.1.far (HOq.out.1.notSl HLq.out (by decide)) _
            · exact HOq.out.2.far (HOq.out.2.notSl HLq.out (by decide)) _
            · exact HG.out
          case measure => simp [Go.RowKit.intOf]; omega
    · obtain rfl : k = n := by omega
      have hLk := HLk.out
      rw [List.drop_of_length_le (by rw [HN.out]; exact Nat.le_refl _), List.append_nil] at hLk
      have HLk2 := Lib.hid hLk
      have HX2 : Hid (Gs.length = k ∧ sgx Gs = sgx L) := Lib.hid ⟨HK.out.1, by rw [HK.out.2, List.take_of_length_le (by rw [sgx_length, HN.out]; exact Nat.le_refl _)]⟩
      have c0 := HOk.out.1.cell 0
      have c1 := HOk.out.1.cell 1
      have c2 := HOk.out.1.cell 2
      have d0 := HOk.out.2.cell 0
      have d1 := HOk.out.2.cell 1
      have d2 := HOk.out.2.cell 2
      have f0 := HOk.out.2.frozen 0
      have f1 := HOk.out.2.frozen 1
      have f2 := HOk.out.2.frozen 2
      simp at c0 c1 c2 d0 d1 d2
      have HR : Hid (Own (((wr.setCell ⟨w.heap.size + 1, 0, none⟩ (.int .u64 (ae : Int))).setCell ⟨w.heap.size + 1, 1, none⟩ (.slice (some ⟨g, 0, none⟩) k c')).setCell ⟨w.heap.size + 1, 2, none⟩ (.int .i64 q)) (w.heap.size + 1) 38 [.int .u64 (ae : Int), .slice (some ⟨g, 0, none⟩) k c', .int .i64 q]) := Lib.hid (by
        have h9 := ((HOk.out.2.set 0 (.int .u64 (ae : Int))).set 1 (.slice (some ⟨g, 0, none⟩) k c')).set 2 (.int .i64 q)
        simpa using h9)
      have HCH : Hid (Chg [w.heap.size + 1] wr (((wr.setCell ⟨w.heap.size + 1, 0, none⟩ (.int .u64 (ae : Int))).setCell ⟨w.heap.size + 1, 1, none⟩ (.slice (some ⟨g, 0, none⟩) k c')).setCell ⟨w.heap.size + 1, 2, none⟩ (.int .i64 q))) := Lib.hid ((((Chg.refl _ wr).setCell (by simp) _).setCell (by simp) _).setCell (by simp) _)
      clear hLk
      go_wp2_with fail
      generalize ((wr.setCell ⟨w.heap.size + 1, 0, none⟩ (.int .u64 (ae : Int))).setCell ⟨w.heap.size + 1, 1, none⟩ (.slice (some ⟨g, 0, none⟩) k c')).setCell ⟨w.heap.size + 1, 2, none⟩ (.int .i64 q) = wz at *
      refine bodyPost_ret (results_cell_row Try.results16 _ _ (w.heap.size + 1) 38 _ (0, 0) _ rfl HR.out Try.underlying38 rfl (by kernel_rfl)) rfl ?_
      have hSl := HLk2.out.chgc HCH.out (HOk.out.2.notT' (by decide))
      have hGw := HGk.out.chgc HCH.out (HOk.out.2.notT' (by decide)) (HOk.out.2.notT' (by decide))
      refine ⟨⟨ae, some ⟨g, 0, none⟩, c', Gs, q⟩, ?_, ?_, ?_, ⟨hSl.roP, fun s hs => ⟨(hGw s hs).1.roP, fun c hc => Lst.roP (n := c.u.length) (c := c.c) ((hGw s hs).2 c hc)⟩⟩, ?_⟩
      · simp only [LyT.val, HX2.out.1]
      · simp only [LyT.x, HX2.out.2]
      · simp only [HX2.out.1]
      · exact low_chg (HBk.out.trans (HCH.out.below HBk.out.size (fun x hx => by simp only [List.mem_singleton] at hx; subst hx; exact Nat.le_succ _)))
end Go.Proofs.Ytcadnlilijkneaa
namespace Go.Proofs.Ytcadnlilijkneaa
open Go.RowKit Go.Maps Go.Shelf Go.Deep
set_option linter.unusedVariables false
set_option linter.unusedSimpArgs false

theorem LySm.congr {A A' : LyT} (h : LySm A) (hx : A'.x = A.x) : LySm A' := by
  have e1 : sgx A'.sg = sgx A.sg := congrArg Ly.s hx
  have e2 : A'.sg.length = A.sg.length := by have := congrArg List.length e1; simpa using this
  have e3 : ∀ k, chx (st A'.sg k).ch = chx (st A.sg k).ch := fun k => by
    have := congrArg (fun l => (sx l k).2) e1
    simp only [sx_sgx] at this
    exact this
  refine ⟨by rw [e2]; exact h.n, fun k hk => ?_⟩
  have hk' : k < A.sg.length := by rw [← e2]; exact hk
  have h1 := h.s k hk'
  have e4 : (st A'.sg k).ch.length = (st A.sg k).ch.length := by have := congrArg List.length (e3 k); simpa using this
  refine ⟨by rw [e4]; exact h1.1, fun T hT => ?_⟩
  have : T.u ∈ chx (st A'.sg k).ch := List.mem_map_of_mem hT
  rw [e3 k] at this
  obtain ⟨T2, hT2, e5⟩ := List.mem_map.1 this
  rw [← e5]
  exact h1.2 T2 hT2
theorem LySm.fit {A : LyT} (h : LySm A) : SgFit A.sg := by
  refine ⟨by have := h.n.2; omega, fun s hs => ?_⟩
  obtain ⟨k, hk, rfl⟩ := List.getElem_of_mem hs
  have h1 := h.s k hk
  have e : st A.sg k = A.sg[k] := by simp [st, List.getD, hk]
  rw [e] at h1
  exact ⟨by have := h1.1.2; omega, fun c hc => by have := (h1.2 c hc).2; omega⟩
theorem LyS.fit {A : LyT} (h : LyS A) : SgFit A.sg := by
  rcases h with ⟨h, _, _⟩ | h
  · rw [h]; exact ⟨by simp, fun s hs => by cases hs⟩
  · exact h.fit
theorem LyP.nil (w : World) (P : Nat → Prop) {A : LyT} (h : A.sg = []) : LyP w P A := by
  refine ⟨.inl (by rw [h]; rfl), fun s hs => by rw [h] at hs; cases hs⟩
set_option maxHeartbeats 1000000 in
theorem copyA_nil (e : Nat) (q : Int) (w : World) :
    Calls Try.prog 16 #[.agg #[.int .u64 (e : Int), .slice none 0 0, .int .i64 q]] w fun r w' => r = .returned (.agg #[.int .u64 (e : Int), .slice none 0 0, .int .i64 q]) ∧ Chg [] w w' := by
  obtain ⟨W, HW⟩ : ∃ W, Hid ((w.alloc (.cells #[.int .u64 (e : Int), .slice none 0 0, .int .i64 q] 38)).alloc (.cells #[.int .u64 0, .slice none 0 0, .int .i64 0] 38) = W) := ⟨_, Lib.hid rfl⟩
  have hb : Below w.heap.size w W := by rw [← HW.out]; exact (((Chg.refl [] w).alloc _).alloc _).low
  have ho0 : Own W w.heap.size 38 [.int .u64 (e : Int), .slice none 0 0, .int .i64 q] := by rw [← HW.out]; exact (Own.new w _ _).alloc _
  have ho1 : Own W (w.heap.size + 1) 38 [.int .u64 0, .slice none 0 0, .int .i64 0] := by
    rw [← HW.out]
    have := Own.new (w.alloc (.cells #[.int .u64 (e : Int), .slice none 0 0, .int .i64 q] 38)) 38 [.int .u64 0, .slice none 0 0, .int .i64 0]
    simpa using this
  have HCN := Lib.hid (AnyE.slices_Clone_nil (P := Try.prog) cloneS 0 0 W)
  have c0 := ho0.cell 0
  have c1 := ho0.cell 1
  have c2 := ho0.cell 2
  have f1 := ho0.frozen 1
  simp at c0 c1 c2
  have HO := Lib.hid (And.intro ho0 (And.intro ho1 hb))
  have H3 : Hid (Own (W.setCell ⟨w.heap.size, 1, none⟩ (.slice none 0 0)) w.heap.size 38 [.int .u64 (e : Int), .slice none 0 0, .int .i64 q]) := Lib.hid (by simpa using ho0.set 1 _)
  have H4 : Hid (Own (W.setCell ⟨w.heap.size, 1, none⟩ (.slice none 0 0)) (w.heap.size + 1) 38 [.int .u64 0, .slice none 0 0, .int .i64 0]) := Lib.hid (ho1.far (by simp) _)
  have H5 : Hid (Chg [] w (W.setCell ⟨w.heap.size, 1, none⟩ (.slice none 0 0))) := Lib.hid (low_chg (hb.setCell (Nat.le_refl _) _))
  clear hb ho0 ho1
  go_enter Try.func16, Try.ntmps16
  go_upto_region 1 with fail
  rw [HW.out]
  go_upto_region 2 with (first | (go_at_call 24; refine HCN.out.mono ?_; rintro r w1 ⟨rfl, hw⟩; have hw2 := hw.symm; subst hw2) | fail)
  generalize W.setCell ⟨w.heap.size, 1, none⟩ (.slice none 0 0) = w3 at *
  clear c0 c1 c2 f1
  have c0 := H3.out.cell 0
  have c1 := H3.out.cell 1
  have c2 := H3.out.cell 2
  have d0 := H4.out.cell 0
  have d1 := H4.out.cell 1
  have d2 := H4.out.cell 2
  have f0 := H4.out.frozen 0
  have f1 := H4.out.frozen 1
  have f2 := H4.out.frozen 2
  simp at c0 c1 c2 d0 d1 d2
  go_wp2_with fail
  go_loopw [15] (fun i wr => i = .int .i64 0 ∧ wr = w3) (fun _ _ => 0)
  case atStart => exact ⟨rfl, rfl⟩
  case round =>
    obtain ⟨rfl, rfl⟩ := hrel
    rename World => wr
    have HR : Hid (Own (((wr.setCell ⟨w.heap.size + 1, 0, none⟩ (.int .u64 (e : Int))).setCell ⟨w.heap.size + 1, 1, none⟩ (.slice none 0 0)).setCell ⟨w.heap.size + 1, 2, none⟩ (.int .i64 q)) (w.heap.size + 1) 38 [.int .u64 (e : Int), .slice none 0 0, .int .i64 q]) := Lib.hid (by
      have h9 := ((H4.out.set 0 (.int .u64 (e : Int))).set 1 (.slice none 0 0)).set 2 (.int .i64 q)
      simpa using h9)
    have HCH : Hid (Chg [] w (((wr.setCell ⟨w.heap.size + 1, 0, none⟩ (.int .u64 (e : Int))).setCell ⟨w.heap.size + 1, 1, none⟩ (.slice none 0 0)).setCell ⟨w.heap.size + 1, 2, none⟩ (.int .i64 q))) := Lib.hid (((H5.out.setCell (by simp) _).setCell (by simp) _).setCell (by simp) _)
    go_wp2_with fail
    generalize ((wr.setCell ⟨w.heap.size + 1, 0, none⟩ (.int .u64 (e : Int))).setCell ⟨w.heap.size + 1, 1, none⟩ (.slice none 0 0)).setCell ⟨w.heap.size + 1, 2, none⟩ (.int .i64 q) = wz at *
    refine bodyPost_ret (results_cell_row Try.results16 _ _ (w.heap.size + 1) 38 _ (0, 0) _ rfl HR.out Try.underlying38 rfl (by kernel_rfl)) rfl ?_
    exact ⟨rfl, HCH.out⟩
/-- copyOf of a layout that is none, or small -/
theorem copyA_any (A : LyT) (P : Nat → Prop) (w : World) (h : LyP w P A) (hs : LyS A) :
    Calls Try.prog 16 #[A.val] w fun e w' => ∃ A' : LyT, e = .returned A'.val ∧ A'.x = A.x ∧ LyP w' (fun x => w.heap.size ≤ x) A' ∧ LyS A' ∧ Chg [] w w' := by
  rcases hs with ⟨h1, h2, h3⟩ | hs
  · obtain ⟨e, a, c, L, q⟩ := A
    simp only at h1 h2 h3
    subst h1 h2 h3
    exact (copyA_nil e q w).mono fun r w' ⟨h1, h2⟩ => ⟨⟨e, none, 0, [], q⟩, h1, rfl, LyP.nil _ _ rfl, .inl ⟨rfl, rfl, rfl⟩, h2⟩
  · exact (copyA_sm A w.heap.size w h.inn (Nat.le_refl _) hs).mono fun r w' ⟨A', h1, h2, _, h3, h4⟩ => ⟨A', h1, h2, h3, .inr (hs.congr h2), h4⟩

end Go.Proofs.Ytcadnlilijkneaa
namespace Go.Proofs.Ytcadnlilijkneaa
open Go.RowKit Go.Maps Go.Shelf Go.Deep
set_option linter.unusedVariables false
set_option linter.unusedSimpArgs false

/-- a message whose blocks have a property -/
structure MgP (w : World) (P : Nat → Prop) (A : MgT) : Prop where
  d : RoP w P A.ca (u8s A.c.d)
  b : RoP w P A.ca2 (bcs A.c.b)
  st : RoP w P A.sa (i64s A.st)
  bk : RoP w P A.ka (bcs A.bk)
  ly : LyP w P A.ly
theorem MgP.inn {w : World} {P : Nat → Prop} {A : MgT} (h : MgP w P A) : MgIn w w.heap.size A := ⟨h.d.ro, h.b.ro, h.st.ro, h.bk.ro, h.ly.inn⟩
theorem MgP.chg {w w' : World} {P : Nat → Prop} {l : List Nat} {A : MgT} (h : MgP w P A) (hc : Chg l w w') (hl : ∀ x, P x → x ∉ l) : MgP w' P A := ⟨h.d.chg hc hl, h.b.chg hc hl, h.st.chg hc hl, h.bk.chg hc hl, h.ly.chg hc hl⟩
theorem MgP.mono {w : World} {P P' : Nat → Prop} {A : MgT} (h : MgP w P A) (hp : ∀ x, x < w.heap.size → P x → P' x) : MgP w P' A := ⟨h.d.mono hp, h.b.mono hp, h.st.mono hp, h.bk.mono hp, h.ly.mono hp⟩
theorem MgIn.mgP {w : World} {B : Nat} {A : MgT} (h : MgIn w B A) (hB : B ≤ w.heap.size) : MgP w (fun x => x < B) A := ⟨h.d.roP hB, h.b.roP hB, h.st.roP hB, h.bk.roP hB, h.ly.lyP hB⟩
theorem MgP.step {w w' : World} {P : Nat → Prop} {l : List Nat} {A : MgT} (h : MgP w P A) (hc : Chg l w w') (hl : ∀ x, P x → x ∉ l) : MgP w' (fun x => P x ∧ x < w.heap.size) A := (h.mono (fun x hx hp => ⟨hp, hx⟩)).chg hc (fun x hx => hl x hx.1)
theorem LyP.step {w w' : World} {P : Nat → Prop} {l : List Nat} {A : LyT} (h : LyP w P A) (hc : Chg l w w') (hl : ∀ x, P x → x ∉ l) : LyP w' (fun x => P x ∧ x < w.heap.size) A := (h.mono (fun x hx hp => ⟨hp, hx⟩)).chg hc (fun x hx => hl x hx.1)

def mgv (L : List MgT) : List Value := L.flatMap MgT.cs
theorem mgv_length (L : List MgT) : (mgv L).length = L.length * 22 := by
  induction L with
  | nil => rfl
  | cons T L ih =>
    show (T.cs ++ mgv L).length = _
    rw [List.length_append, ih, List.length_cons]
    have : T.cs.length = 22 := rfl
    omega
theorem mgv_append (L M : List MgT) : mgv (L ++ M) = mgv L ++ mgv M := by simp [mgv]
theorem mgv_one (T : MgT) : mgv [T] = T.cs := by simp [mgv]
theorem mgv_at {L : List MgT} {k : Nat} (hk : k < L.length) {j : Nat} (hj : j < 22) : (mgv L)[k * 22 + j]? = L[k].cs[j]? := by
  have h1 : L = L.take k ++ L[k] :: L.drop (k + 1) := by rw [← List.drop_eq_getElem_cons hk, List.take_append_drop]
  have h2 : mgv L = mgv (L.take k) ++ (L[k].cs ++ mgv (L.drop (k + 1))) := by
    conv => lhs; rw [h1]
    rw [mgv_append]
    rfl
  have h3 : (mgv (L.take k)).length = k * 22 := by rw [mgv_length, List.length_take]; omega
  rw [h2, List.getElem?_append_right (by omega), h3, Nat.add_sub_cancel_left, List.getElem?_append_left (by have : L[k].cs.length = 22 := rfl; omega)]
/-- a message's cells within a row that reads as a list -/
theorem mg_range {w : World} {B b off : Nat} {L : List MgT} (h : Ro w B (some ⟨b, off, none⟩) (mgv L)) {k : Nat} (hk : k < L.length) : w.rangeAt b (off + k * 22) L[k].cs := fun j v hv => by
  have hj : j < 22 := by have := (List.getElem?_eq_some_iff.1 hv).1; exact this
  have hl : k * 22 + j < (mgv L).length := by rw [mgv_length]; omega
  rcases h with h | ⟨b', off', h1, h2, h3⟩
  · rw [h] at hl; simp at hl
  · injection h1 with h1
    injection h1 with h1 h1' _
    subst h1 h1'
    have := h3 (k * 22 + j) hl
    rw [Nat.add_assoc, this]
    have h5 := mgv_at hk hj
    rw [List.getD_eq_getElem?_getD, h5, hv]
    rfl
/-- a list of messages in a row of its own; what the messages hold has a property that the row has not -/
structure MLs (w : World) (P : Nat → Prop) (v : Value) (L : List MgT) : Prop where
  row : w.ownsRow 0 40 22 v L.length (mgv L)
  fit : ∀ T ∈ L, MgFit T
  x : ∀ T ∈ L, MgP w P T
theorem MLs.nil (w : World) (P : Nat → Prop) : MLs w P (.slice none 0 0) [] := ⟨World.ownsRow_nil w 0 _ 22, (fun T hT => by cases hT), (fun T hT => by cases hT)⟩
theorem MLs.mono {w : World} {P P' : Nat → Prop} {v : Value} {L : List MgT} (h : MLs w P v L) (hp : ∀ x, x < w.heap.size → P x → P' x) : MLs w P' v L := ⟨h.row, h.fit, fun T hT => (h.x T hT).mono hp⟩
theorem MLs.chg {w w' : World} {P : Nat → Prop} {v : Value} {L : List MgT} {l : List Nat} (h : MLs w P v L) (hc : Chg l w w') (hl : ∀ x, P x → x ∉ l) (hr : ∀ x ∈ rowOf v, x ∉ l) : MLs w' P v L := by
  refine ⟨⟨h.row.1, ?_⟩, h.fit, fun T hT => (h.x T hT).chg hc hl⟩
  rcases h.row.2 with h1 | ⟨g, cap, cur, h1, h2, h3, h4⟩
  · exact .inl h1
  · exact .inr ⟨g, cap, cur, h1, h2, (hc.block g (Array.getElem?_eq_some_iff.1 h3).1 (hr g (by rw [h1]; simp [rowOf, Value.ownBlock]))).trans h3, h4⟩
theorem MLs.kept {w w' : World} {P : Nat → Prop} {v : Value} {L : List MgT} (h : MLs w P v L) (hc : Chg [] w w') : MLs w' P v L := h.chg hc (by simp) (by simp)
theorem MLs.step {w w' : World} {P : Nat → Prop} {v : Value} {L : List MgT} {l : List Nat} (h : MLs w P v L) (hc : Chg l w w') (hl : ∀ x, P x → x ∉ l) (hr : ∀ x ∈ rowOf v, x ∉ l) : MLs w' (fun x => P x ∧ x < w.heap.size) v L := (h.mono (fun x hx hp => ⟨hp, hx⟩)).chg hc (fun x hx => hl x hx.1) hr
theorem MLs.form {w : World} {P : Nat → Prop} {v : Value} {L : List MgT} (h : MLs w P v L) : ∃ a c, v = .slice a L.length c ∧ Ro w w.heap.size a (mgv L) := by
  rcases h.row.2 with ⟨rfl, h0⟩ | ⟨g, cap, cur, rfl, hb, hh, hle, hm, hrest⟩
  · have : L = [] := by simpa using h0
    subst this
    exact ⟨none, 0, rfl, Ro.nil _ _ _⟩
  · refine ⟨some ⟨g, 0, none⟩, cap, rfl, .inr ⟨g, 0, rfl, ?_, fun i hi => ?_⟩⟩
    · exact (World.ownsRow.lt h.row g rfl).2
    · have := World.ownsRow.cellAt h.row i (by rw [mgv_length] at hi; exact hi)
      rw [Nat.zero_add, this]
      simp only [List.getD, List.getElem?_eq_getElem hi, Option.getD_some]
theorem MLs.lt {w : World} {P : Nat → Prop} {v : Value} {L : List MgT} (h : MLs w P v L) : ∀ x ∈ rowOf v, x < w.heap.size := by
  intro x hx
  rcases h.row.2 with ⟨rfl, _⟩ | ⟨g, cap, cur', rfl, hb, hh, _⟩
  · simp [rowOf, Value.ownBlock] at hx
  · simp [rowOf, Value.ownBlock] at hx
    subst hx
    exact (Array.getElem?_eq_some_iff.1 hh).1
theorem MLs.rowT {w : World} {P : Nat → Prop} {v : Value} {L : List MgT} (h : MLs w P v L) {t : TypeId} (ht : t ≠ 40) : ∀ x ∈ rowOf v, ∀ cur, w.heap[x]? ≠ some (.cells cur t (0, 0)) := by
  intro x hx cur he
  rcases h.row.2 with ⟨rfl, _⟩ | ⟨g, cap, cur', rfl, hb, hh, _⟩
  · simp [rowOf, Value.ownBlock] at hx
  · simp [rowOf, Value.ownBlock] at hx
    subst hx
    rw [hh] at he
    injection he with he
    injection he with _ he _
    exact ht he.symm
/-- behind an append of others -/
theorem MLs.more {w w' : World} {P : Nat → Prop} {g cap : Nat} {v : Value} {L M : List MgT} (h : MLs w P v L) (hM : ∀ T ∈ M, MgP w P T ∧ MgFit T) (hP : ∀ x, P x → x ∉ rowOf v)
    (ho : w'.ownsRow 0 40 22 (.slice (some ⟨g, 0, none⟩) (L.length + M.length) cap) (L.length + M.length) (mgv L ++ mgv M)) (hg : w.grownBy w' v.ownBlock) :
    MLs w' (fun x => P x ∧ x < w.heap.size) (.slice (some ⟨g, 0, none⟩) (L.length + M.length) cap) (L ++ M) ∧ Chg (rowOf v) w w' := by
  have hc : Chg (rowOf v) w w' := (Chg.refl _ w).grown hg (fun k hk => .inl (by simp [rowOf, hk]))
  refine ⟨⟨?_, ?_, ?_⟩, hc⟩
  · rw [mgv_append, List.length_append]
    exact ho
  · intro U hU
    rcases List.mem_append.1 hU with hU | hU
    · exact h.fit U hU
    · exact (hM U hU).2
  · intro U hU
    rcases List.mem_append.1 hU with hU | hU
    · exact (h.x U hU).step hc hP
    · exact (hM U hU).1.step hc hP
theorem Try.info_msg : (Try.prog.info? 40).map (fun i => (i.zero, i.size, i.bytes)) = some (some (.agg zmT.cs.toArray), 22, 256) := by kernel_rfl
/-- append of one message, out of a block of its own -/
theorem wpList_appMg {ops : Array Oper} {rest : List Oper} {o : Oper} {a : Act} {w : World} {Q : Exit → Act → World → Prop} (hgd : o.guard = none) (s x : Operand)
    (ho : o.op = .call { callee := .builtin .append, args := #[s, x], argTypes := #[47, 47] })
    (P : Nat → Prop) (v : Value) (L : List MgT) (hs : a.eval s = v) (hown : MLs w P v L) (hP : ∀ x, P x → x ∉ rowOf v) (g : Nat) (T : MgT) (hT : MgP w P T) (hf : MgFit T) (t : TypeId) (hnew : Own w g t T.cs)
    (hx : a.eval x = .slice (some ⟨g, 0, none⟩) 1 1) (hlen : L.length ≤ 1000000)
    (h : ∀ g' cap w', Hid (MLs w' (fun x => P x ∧ x < w.heap.size) (.slice (some ⟨g', 0, none⟩) (L.length + 1) cap) (L ++ [T])) → (v.ownBlock = some g' ∨ g' = w.heap.size) → Chg (rowOf v) w w' → wpList Try.prog ops Q rest (a.put o.dst (.slice (some ⟨g', 0, none⟩) (L.length + 1) cap)) w') : wpList Try.prog ops Q (o :: rest) a w := by
  obtain ⟨i, hi, hzz⟩ := Option.map_eq_some_iff.1 Try.info_msg
  simp only [Prod.mk.injEq] at hzz
  obtain ⟨hz, hsz, hby⟩ := hzz
  refine wpList_append_lies w hgd s x 47 ho 0 40 i _ 22 256 Try.underlying47 hi hz hsz hby rfl (by omega) v L.length (mgv L) hs hown.row ⟨g, 0, none⟩ 1 1 T.cs hx rfl (fun j u hu => ?_) T.one (by omega) (by unfold maxLen; omega) (by omega) (Nat.zero_le _) _ rfl fun g' cap w' h2 h3 h4 h5 => ?_
  · rw [add_off, Nat.zero_add, hnew.cell j]; exact hu
  · obtain ⟨k1, k2⟩ := hown.more (M := [T]) (fun U hU => by rw [List.mem_singleton.1 hU]; exact ⟨hT, hf⟩) hP (by rw [mgv_one]; exact h2) h3
    exact h g' cap w' (Lib.hid k1) h4 k2
/-- '[]Message{m}' -/
theorem wpList_sliceMg {ops : Array Oper} {rest : List Oper} {o : Oper} {a : Act} {w : World} {Q : Exit → Act → World → Prop} (hgd : o.guard = none) (x : Operand) (ho : o.op = .buildSlice 47 1 #[(0, x)]) (T : MgT) (hx : a.eval x = .agg T.cs.toArray)
    (h : wpList Try.prog ops Q rest (a.put o.dst (.slice (some ⟨w.heap.size, 0, none⟩) 1 1)) (w.alloc (.cells T.cs.toArray 40))) : wpList Try.prog ops Q (o :: rest) a w := by
  obtain ⟨i, hi, hz⟩ := Option.map_eq_some_iff.1 Try.info_msg
  simp only [Prod.mk.injEq] at hz
  refine wpList_buildSlice hgd _ _ 1 _ ho T.cs.toArray i (.agg zmT.cs.toArray) Try.underlying47 hi hz.1 (by rw [hz.2.1]; omega) (by rw [hz.2.1]; omega) ?_ h
  rw [hz.2.1]
  have : (#[(0, x)].map fun (i, x) => (i, a.eval x)).toList = (([.agg T.cs.toArray] : List Value).zipIdx 0).map fun x => (x.2, x.1) := by simp [hx]
  rw [this]
  have := Great.fill_whole (s := 22) (by omega) [.agg T.cs.toArray] ((Array.range (1 * 22)).map ((Value.agg zmT.cs.toArray).cells[· % (Value.agg zmT.cs.toArray).cells.size]!)) (fun v hv => by rw [List.mem_singleton.1 hv]; rfl) (by simp)
  rw [this]
  simp [Value.cells]
end Go.Proofs.Ytcadnlilijkneaa
namespace Go.Proofs.Ytcadnlilijkneaa
open Go.RowKit Go.Maps Go.Shelf
set_option linter.unusedVariables false
set_option linter.unusedSimpArgs false

/-- a value reads as itself -/
def idR (v : Value) : Option (DataW Value × List MemPlace) := some (.held v, [])
theorem idR_inv {v : Value} {z : DataW Value × List MemPlace} (h : idR v = some z) : z = (.held v, []) := by simpa [idR, eq_comm] using h
/-- numbers without repeats below N are N at most -/
theorem nodup_le {l : List Nat} (h : l.Nodup) {N : Nat} (hN : ∀ x ∈ l, x < N) : l.length ≤ N := by
  have hp : l.Perm ((List.range N).filter fun x => decide (x ∈ l)) := (List.perm_ext_iff_of_nodup h (List.nodup_range.filter _)).2 fun x => by
    simp only [List.mem_filter, List.mem_range, decide_eq_true_eq]
    exact ⟨fun hx => ⟨hN x hx, hx⟩, fun hx => hx.2⟩
  rw [hp.length_eq]
  have := List.length_filter_le (fun x => decide (x ∈ l)) (List.range N)
  simpa using this
def updV (V : Nat → Option Value) (a : Nat) (v : Value) : Nat → Option Value := fun x => if x = a then some v else V x
end Go.Proofs.Ytcadnlilijkneaa
namespace Go.Proofs.Ytcadnlilijkneaa
open Go.RowKit Go.Maps Go.Shelf
set_option linter.unusedVariables false
set_option linter.unusedSimpArgs false

/-- the literal of key a -/
abbrev ik (a : Nat) : Lit := .int .i64 (a : Int)
theorem ikeyed : Keyed Try.prog 3 := int_keyed Try.underlying3
theorem ik_inj {a b : Nat} (h : ik a = ik b) : a = b := by simp only [Lit.int.injEq, true_and] at h; omega
theorem ik_isKey (a : Nat) : WideAt.IsKeyLit (ik a) := by simp [WideAt.IsKeyLit]
theorem keyOf_ik {a : Nat} (h : a < 9223372036854775808) : keyOf Try.prog 3 (.int .i64 (a : Int)) = some (ik a) := keyOf_int_mk Try.underlying3 (WalkArith.wf_i64 (by omega))
/-- the datum of the map V -/
structure MapID (V : Nat → Option Value) (D : DataW Value) : Prop where
  some_ : ∀ a v, V a = some v → has D (ik a) = true ∧ ∀ z, D.atKey (ik a) z = .held v
  none_ : ∀ a, V a = none → has D (ik a) = false
  keys : ∀ kl, has D kl = true → ∃ a, a < 9223372036854775808 ∧ kl = ik a
theorem MapID.has {V : Nat → Option Value} {D : DataW Value} (h : MapID V D) (a : Nat) : Go.Maps.has D (ik a) = (V a).isSome := by
  cases hV : V a with
  | none => exact h.none_ a hV
  | some v => exact (h.some_ a v hV).1
theorem MapID.empty : MapID (fun _ => none) (.map []) := ⟨fun _ _ h => (by cases h), fun _ _ => rfl, fun kl h => by simp [Go.Maps.has] at h⟩
theorem MapID.put {V : Nat → Option Value} {D : DataW Value} (h : MapID V D) (hD : IsMap D) {i : Nat} (hi : i < 9223372036854775808) (v : Value) : MapID (updV V i v) (D.put (ik i) (.held v)) := by
  have hne : ∀ j, j ≠ i → ik j ≠ ik i := fun j hj e => hj (ik_inj e)
  refine ⟨fun j u hj => ?_, fun j hj => ?_, fun kl hkl => ?_⟩
  · by_cases e : j = i
    · subst e
      simp only [updV, if_true, Option.some.injEq] at hj
      subst hj
      exact ⟨has_put_same hD (ik_isKey j) _, fun z => atKey_put_same hD (ik_isKey j) _ z⟩
    · simp only [updV, if_neg e] at hj
      obtain ⟨h1, h2⟩ := h.some_ j u hj
      exact ⟨by rw [has_put_other (hne j e)]; exact h1, fun z => by rw [atKey_put_other (hne j e)]; exact h2 z⟩
  · by_cases e : j = i
    · subst e
      simp [updV] at hj
    · simp only [updV, if_neg e] at hj
      rw [has_put_other (hne j e)]
      exact h.none_ j hj
  · by_cases e : kl = ik i
    · exact ⟨i, hi, e⟩
    · rw [has_put_other e] at hkl
      exact h.keys kl hkl
/-- a map in block b -/
structure MapI (w : World) (b : Nat) (V : Nat → Option Value) : Prop where
  own : ∃ D, w.ownsMap Try.prog 3 idR b 1048577 D ∧ MapID V D
  dom : ∀ a v, V a = some v → a < 1048577
theorem MapI.lt {w : World} {b : Nat} {V : Nat → Option Value} (h : MapI w b V) : b < w.heap.size := by obtain ⟨D, h1, _⟩ := h.own; exact h1.lt
theorem owns_blockI {w w' : World} {b n : Nat} {D : DataW Value} (h : w.ownsMap Try.prog 3 idR b n D) (hb : w'.heap[b]? = w.heap[b]?) : w'.ownsMap Try.prog 3 idR b n D := by
  obtain ⟨es, clock, h1, h2⟩ := h
  exact ⟨es, clock, hb.trans h1, h2⟩
theorem MapI.chg {l : List Nat} {w w' : World} {b : Nat} {V : Nat → Option Value} (h : MapI w b V) (hc : Chg l w w') (hb : b ∉ l) : MapI w' b V := by
  obtain ⟨D, h1, h2⟩ := h.own
  exact ⟨⟨D, owns_blockI h1 (hc.block b h1.lt hb), h2⟩, h.dom⟩
theorem MapI.kept {w w' : World} {b : Nat} {V : Nat → Option Value} (h : MapI w b V) (hc : Chg [] w w') : MapI w' b V := h.chg hc (by simp)
theorem tightI {w : World} {b n : Nat} {V : Nat → Option Value} {D : DataW Value} (h : w.ownsMap Try.prog 3 idR b n D) (hm : MapID V D) (hd : ∀ a v, V a = some v → a < 1048577) : MapI w b V := by
  refine ⟨⟨D, ?_, hm⟩, hd⟩
  obtain ⟨es, hD, hpw, hk⟩ := h.entries ikeyed
  obtain ⟨es0, clock, hb, F, hn, hD0⟩ := h
  refine ⟨es0, clock, hb, F, ?_, hD0⟩
  have e1 : es0.size = es.length := by
    rw [hD] at hD0
    have := DataW.map.inj hD0
    rw [this, length_sorted]
    simp
  rw [e1]
  subst hD
  have hx : ∀ p ∈ es, ∃ a, a < 9223372036854775808 ∧ p.1 = ik a := fun p hp => hm.keys p.1 (List.any_eq_true.2 ⟨p, hp, WideAt.sameKey_self (hk p hp)⟩)
  let f : Lit × DataW Value → Nat := fun p => match p.1 with | .int _ x => x.toNat | _ => 0
  have hf : ∀ p ∈ es, p.1 = ik (f p) := fun p hp => by
    obtain ⟨a, _, ha⟩ := hx p hp
    show p.1 = ik (match p.1 with | .int _ x => x.toNat | _ => 0)
    rw [ha]
    simp
  have hnd : (es.map f).Nodup := List.pairwise_map.2 (hpw.imp_of_mem fun {p q} hp hq hne e => hne (by rw [hf p hp, hf q hq, e]))
  have := nodup_le hnd (N := 1048577) fun x hx2 => by
    obtain ⟨p, hp, rfl⟩ := List.mem_map.1 hx2
    have h2 : Go.Maps.has (.map es) (ik (f p)) = true := by rw [← hf p hp]; exact List.any_eq_true.2 ⟨p, hp, WideAt.sameKey_self (hk p hp)⟩
    rw [hm.has] at h2
    obtain ⟨v, hv⟩ := Option.isSome_iff_exists.1 h2
    exact hd _ v hv
  simpa using this
/-- lookup, with ok -/
theorem MapI.look {w : World} {b : Nat} {V : Nat → Option Value} (h : MapI w b V) {t e : TypeId} (ht : Try.prog.underlying t = some (.map 3 e)) {z : Value} (hz : (zeroValue e).run Try.prog w = .ok z w) {a : Nat} (ha : a < 9223372036854775808) :
    (Instr.lookup t (.map (some b)) (.int .i64 (a : Int)) true).run Try.prog w = .ok (.tuple #[(V a).getD z, .bool (V a).isSome]) w := by
  obtain ⟨D, ho, hm⟩ := h.own
  obtain ⟨v, ps, hrun, hv⟩ := ho.look_ok ikeyed ht hz (zd := .held z) (zp := []) rfl (keyOf_ik ha)
  have h2 := idR_inv hv
  rw [hrun, hm.has]
  cases hV : V a with
  | none =>
    have e1 : D.atKey (ik a) (.held z) = .held z := by
      have := hm.none_ a hV
      exact atKey_of_not_has this _
    rw [e1] at h2
    simp at h2
    simp [h2]
  | some u =>
    rw [(hm.some_ a u hV).2] at h2
    simp at h2
    simp [h2]
/-- m[a] = v -/
theorem MapI.put {w : World} {b : Nat} {V : Nat → Option Value} (h : MapI w b V) {t e : TypeId} (ht : Try.prog.underlying t = some (.map 3 e)) {a : Nat} (ha : a < 1048577) (v : Value) :
    ∃ w', (Instr.mapUpdate t (.map (some b)) (.int .i64 (a : Int)) v).run Try.prog w = .ok () w' ∧ MapI w' b (updV V a v) ∧ Chg [b] w w' := by
  obtain ⟨D, ho, hm⟩ := h.own
  obtain ⟨w', hrun, ho', htn⟩ := ho.store ikeyed ht (by unfold maxLen; omega) (keyOf_ik (a := a) (by omega)) (val := v) (d := .held v) (ps := []) rfl
  refine ⟨w', hrun, tightI ho' (hm.put (i := a) ho.isMap (by omega) v) fun j u hj => ?_, (Chg.refl [b] w).grown htn.grown (by simp)⟩
  by_cases e : j = a
  · rw [e]; exact ha
  · have h2 : updV V a v j = V j := if_neg e
    rw [h2] at hj
    exact h.dom j u hj
theorem MapI.made (w : World) : MapI (w.alloc (.map #[] 0)) w.heap.size (fun _ => none) := tightI (World.ownsMap_made w Try.prog 3 idR) MapID.empty (fun _ _ h => by cases h)
end Go.Proofs.Ytcadnlilijkneaa
namespace Go.Proofs.Ytcadnlilijkneaa
open Go.RowKit Go.Maps Go.Shelf Go.Deep
set_option linter.unusedVariables false
set_option linter.unusedSimpArgs false

/-- a proposer in memory -/
structure PrT where
  cl : Int
  id : Int
  wi : LyT
  ph : Int
  ba : Int × Int
  he : Int × Int
  vb : Option Nat
  ti : Int
  fo : Int × Int
  ly : LyT
  ov : Value
def prcs (cl id : Int) (we : Nat) (wa : Option Addr) (wn wc : Nat) (wq ph b1 b2 h1 h2 : Int) (vb : Option Nat) (ti f1 f2 : Int) (le : Nat) (la : Option Addr) (ln lc : Nat) (lq : Int) (ov : Value) : List Value :=
  [.int .i64 cl, .int .i64 id, .int .u64 (we : Int), .slice wa wn wc, .int .i64 wq, .int .i64 ph, .int .i64 b1, .int .i64 b2, .int .i64 h1, .int .i64 h2, .map vb, .int .i64 ti, .int .i64 f1, .int .i64 f2, .int .u64 (le : Int), .slice la ln lc, .int .i64 lq, ov]
def PrT.cs (T : PrT) : List Value := prcs T.cl T.id T.wi.e T.wi.a T.wi.sg.length T.wi.c T.wi.q T.ph T.ba.1 T.ba.2 T.he.1 T.he.2 T.vb T.ti T.fo.1 T.fo.2 T.ly.e T.ly.a T.ly.sg.length T.ly.c T.ly.q T.ov
/-- its blocks that turn -/
def prM (p : Nat) (T : PrT) : List Nat := p :: (T.vb.toList ++ rowOf T.ov)
/-- a kind of question -/
def kd (f : Int) : Int := if f = 1 then 11 else if f = 2 then 12 else 0
theorem kind_any (f : Int) (w : World) : Calls Try.prog 21 #[.int .i64 f] w fun e w' => e = .returned (.int .i64 (kd f)) ∧ w' = w := by
  by_cases h1 : f = 1
  · subst h1
    go_enter Try.func21, Try.ntmps21
    go_wp2_with fail
    go_ret
    exact ⟨rfl, rfl⟩
  · by_cases h2 : f = 2
    · subst h2
      go_enter Try.func21, Try.ntmps21
      go_wp2_with fail
      go_ret
      exact ⟨rfl, rfl⟩
    · have e : kd f = 0 := by unfold kd; rw [if_neg h1, if_neg h2]
      have b1 : (f == 1) = false := by simpa using h1
      have b2 : (f == 2) = false := by simpa using h2
      rw [e]
      go_enter Try.func21, Try.ntmps21
      go_wp2_with fail
      go_ret
      exact ⟨rfl, rfl⟩
theorem place_any (w : World) (p : Nat) (T : PrT) (ho : Own w p 58 T.cs) : Calls Try.prog 30 #[.pointer (some ⟨p, 0, none⟩)] w fun e w' => e = .returned (.agg #[.int .i64 4, .int .i64 T.cl]) ∧ Chg [] w w' := by
  have c0 := ho.cell 0
  have hz := ho.lt
  simp [PrT.cs, prcs] at c0
  clear ho
  go_enter Try.func30, Try.ntmps30
  go_wp2_with fail
  refine bodyPost_ret (results_cell_row Try.results30 _ _ w.heap.size 25 _ (0, 0) _ rfl (Own.new w 25 [.int .i64 4, .int .i64 T.cl]) Try.underlying25 rfl (by kernel_rfl)) rfl ?_
  exact ⟨rfl, (Chg.refl [] w).alloc _⟩
/-- the next round -/
def nxR (b h : Int) : Int := min (max b h + 1) 65535
theorem round_any (w : World) (p : Nat) (T : PrT) (ho : Own w p 58 T.cs) (hb : 0 ≤ T.ba.1 ∧ T.ba.1 ≤ 65535) (hh : 0 ≤ T.he.1 ∧ T.he.1 ≤ 65535) :
    Calls Try.prog 27 #[.pointer (some ⟨p, 0, none⟩)] w fun e w' => e = .returned (.int .i64 (nxR T.ba.1 T.he.1)) ∧ Chg [] w w' := by
  have c6 := ho.cell 6
  have c8 := ho.cell 8
  have hz := ho.lt
  simp [PrT.cs, prcs] at c6 c8
  clear ho
  obtain ⟨_, _, _, _, ⟨b1, b2⟩, ⟨h1, h2⟩, _, _, _, _, _⟩ := T
  simp only at c6 c8 hb hh ⊢
  unfold nxR
  have hm : IntKind.i64.wrap (max b1 h1 + 1) = max b1 h1 + 1 := IntWalk.i64_in _ (by omega)
  go_enter Try.func27, Try.ntmps27
  go_wp2_with (first | (go_region) | fail)
  go_ret
  exact ⟨rfl, (Chg.refl [] w).drew⟩
end Go.Proofs.Ytcadnlilijkneaa
