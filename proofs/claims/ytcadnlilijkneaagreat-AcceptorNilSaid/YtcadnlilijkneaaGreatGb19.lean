/-
  Rows of a call of its own, set at a place. Plain lemmas, no claim of their own.
-/
import Derived.Test.YtcadnlilijkneaaGreatGb16
import Derived.Test.YtcadnlilijkneaaGreatGb6
import Derived.Test.YtcadnlilijkneaaGreatGb17
import Derived.Test.YtcadnlilijkneaaGreatGb18
namespace Go.Proofs.YtcadnlilijkneaaGreat
open Go.RowKit Go.Deep Go.Shelf
set_option linter.unusedVariables false
set_option linter.unusedSimpArgs false

theorem Lst.set {w : World} {base : Nat} {e : TypeId} {g n c : Nat} {xs : List Value} (h : Lst w base e (.slice (some ⟨g, 0, none⟩) n c) xs) (i : Nat) (hi : i < xs.length) (u : Value) : Lst (w.setCell ⟨g, i, none⟩ u) base e (.slice (some ⟨g, 0, none⟩) n c) (xs.set i u) := by
  refine ⟨by simp, ?_⟩
  rcases h.2 with ⟨hv, _⟩ | ⟨g', cap, cur, hv, h2, h3, h4, h5, h6, h7⟩
  · cases hv
  · injection hv with hv hn hc
    injection hv with hv
    injection hv with hv _ _
    subst hv hc
    refine .inr ⟨g, c, cur.set! i u, by rw [hn]; simp, h2, ?_, by simpa using h4, h5, by simpa using h6, ?_⟩
    · have : Own w g e cur.toList := by unfold Own; simpa using h3
      have := this.set i u
      unfold Own at this
      rw [this]
      congr 2
      apply Array.ext'
      simp
    · rw [List.length_set, Array.set!_eq_setIfInBounds, Array.toList_setIfInBounds, List.take_set, h7]
theorem Lst.frozen {w : World} {base : Nat} {e : TypeId} {g n c : Nat} {xs : List Value} (h : Lst w base e (.slice (some ⟨g, 0, none⟩) n c) xs) (i : Nat) : w.frozen? ⟨g, i, none⟩ = false := by
  rcases h.2 with ⟨hv, _⟩ | ⟨g', cap, cur, hv, h2, h3, _⟩
  · cases hv
  · injection hv with hv hn hc
    injection hv with hv
    injection hv with hv _ _
    subst hv
    simp [World.frozen?, h3]

end Go.Proofs.YtcadnlilijkneaaGreat
namespace Go.Proofs.YtcadnlilijkneaaGreat
open Go.RowKit Go.Deep Go.Shelf
set_option linter.unusedVariables false
set_option linter.unusedSimpArgs false

theorem i64s_one (bs : List Int) : ∀ v ∈ i64s bs, v.oneCell' = true := by
  intro v hv
  simp only [i64s, List.mem_map] at hv
  obtain ⟨x, _, rfl⟩ := hv
  rfl
theorem clone_int (a : Option Addr) (c B : Nat) (L : List Int) (w : World) (hro : Ro w B a (i64s L)) (h0 : 0 < L.length) (hl : L.length ≤ 1000000) :
    Calls Tryz.prog 104 #[.slice a L.length c] w fun e w' => ∃ v, e = .returned v ∧ Lst w' w.heap.size 3 v (i64s L) ∧ Below w.heap.size w w' := by
  obtain ⟨i, hi, hz⟩ := Option.map_eq_some_iff.1 Tryz.info_i64
  simp only [Prod.mk.injEq] at hz
  obtain ⟨b, off, rfl, hb, hc⟩ := hro.i64 h0
  refine (AnyE.slices_Clone cloneI i (.int .i64 0) 1 8 hi hz.1 hz.2.1 hz.2.2 rfl (by omega) (fun w => Tryz.sizeOf3 w) b off L.length c (i64s L) w (by simp) (by unfold maxLen; omega) (by omega) (fun j u hj => ?_) (i64s_one L)).mono ?_
  · have hj' : j < L.length := by simpa using (List.getElem?_eq_some_iff.1 hj).1
    rw [hc j hj', ← i64s_getD L j hj']
    simp [List.getD, hj]
  · rintro e w' ⟨v, rfl, h1, _, h2⟩
    refine ⟨v, rfl, ?_, h2⟩
    unfold Lst
    rw [i64s_length]
    exact h1
theorem cloneC_any (a : Option Addr) (c B : Nat) (L : List ChT) (w : World) (hro : Ro w B a (chv L)) (h0 : 0 < L.length) (hl : L.length ≤ 1000000) :
    Calls Tryz.prog 103 #[.slice a L.length c] w fun e w' => ∃ g c', e = .returned (.slice (some ⟨g, 0, none⟩) L.length c') ∧ Lst w' w.heap.size 46 (.slice (some ⟨g, 0, none⟩) L.length c') (chv L) ∧ Below w.heap.size w w' := by
  obtain ⟨i, hi, hz⟩ := Option.map_eq_some_iff.1 Tryz.info_ch
  simp only [Prod.mk.injEq] at hz
  obtain ⟨b, off, rfl, hb, hc⟩ := hro.ch h0
  refine (AnyE.slices_Clone cloneC i (.slice none 0 0) 1 24 hi hz.1 hz.2.1 hz.2.2 rfl (by omega) (fun w => Tryz.sizeOf46 w) b off L.length c (chv L) w (by simp) (by unfold maxLen; omega) (by omega) (fun j u hj => ?_) (chv_one L)).mono ?_
  · have hj' : j < L.length := by simpa using (List.getElem?_eq_some_iff.1 hj).1
    rw [hc j hj', ← hj]
    simp [chv, ct, List.getD, hj', ChT.val]
  · rintro e w' ⟨v, rfl, h1, _, h2⟩
    have hl : Lst w' w.heap.size 46 v (chv L) := by unfold Lst; rw [chv_length]; exact h1
    rcases hl.2 with ⟨_, hn⟩ | ⟨g, cap, cur, hv, hrest⟩
    · rw [chv_length] at hn; omega
    · rw [chv_length] at hv
      rw [hv] at hl
      exact ⟨g, cap, by rw [hv], hl, h2⟩
theorem cloneS_any (a : Option Addr) (c B : Nat) (L : List SgT) (w : World) (hro : Ro w B a (sgv L)) (h0 : 0 < L.length) (hl : L.length ≤ 1000000) :
    Calls Tryz.prog 102 #[.slice a L.length c] w fun e w' => ∃ g c', e = .returned (.slice (some ⟨g, 0, none⟩) L.length c') ∧ Sl w' w.heap.size (.slice (some ⟨g, 0, none⟩) L.length c') L ∧ Below w.heap.size w w' := by
  obtain ⟨i, hi, hz⟩ := Option.map_eq_some_iff.1 Tryz.info_seg
  simp only [Prod.mk.injEq] at hz
  obtain ⟨b, off, rfl, hb, hc⟩ := hro.sg h0
  refine (AnyE.slices_Clone cloneS i (.agg #[.int .u64 0, .slice none 0 0]) 2 32 hi hz.1 hz.2.1 hz.2.2 rfl (by omega) (fun w => Tryz.sizeOf84 w) b off L.length c (sgv L) w (by simp) (by unfold maxLen; omega) (by omega) (fun j u hj => ?_) (sgv_one L)).mono ?_
  · have hj' : j < L.length * 2 := by simpa using (List.getElem?_eq_some_iff.1 hj).1
    obtain ⟨q1, q2⟩ := sgv_get L (j / 2)
    obtain ⟨p1, p2⟩ := hc (j / 2) (by omega)
    have es : L[j / 2]? = some (st L (j / 2)) := by
      have : j / 2 < L.length := by omega
      simp [st, List.getD, this]
    rcases Nat.mod_two_eq_zero_or_one j with e | e
    · have e2 : j = j / 2 * 2 := by omega
      rw [← e2, es, hj] at q1
      rw [← e2] at p1
      rw [p1, q1]
      rfl
    · have e2 : j = j / 2 * 2 + 1 := by omega
      rw [← e2, es, hj] at q2
      rw [Nat.add_assoc, ← e2] at p2
      rw [p2, q2]
      rfl
  · rintro e w' ⟨v, rfl, h1, _, h2⟩
    have hl : Sl w' w.heap.size v L := h1
    rcases hl.2 with ⟨_, hn⟩ | ⟨g, cap, cur, hv, hrest⟩
    · omega
    · rw [hv] at hl
      exact ⟨g, cap, by rw [hv], hl, h2⟩
theorem Sl.set {w : World} {base g n c : Nat} {L L' : List SgT} (h : Sl w base (.slice (some ⟨g, 0, none⟩) n c) L) (i : Nat) (hi : i < L.length * 2) (u : Value) (hn : L'.length = L.length) (hx : (sgv L).set i u = sgv L') : Sl (w.setCell ⟨g, i, none⟩ u) base (.slice (some ⟨g, 0, none⟩) n c) L' := by
  refine ⟨by simp, ?_⟩
  rcases h.2 with ⟨hv, _⟩ | ⟨g', cap, cur, hv, h2, h3, h4, h5, h6, h7⟩
  · cases hv
  · injection hv with hv hnn hc
    injection hv with hv
    injection hv with hv _ _
    subst hv hc
    refine .inr ⟨g, c, cur.set! i u, by rw [hnn, hn], h2, ?_, by rw [hn]; exact h4, h5, by simpa using h6, ?_⟩
    · have : Own w g 84 cur.toList := by unfold Own; simpa using h3
      have := this.set i u
      unfold Own at this
      rw [this]
      congr 2
      apply Array.ext'
      simp
    · rw [hn, Array.set!_eq_setIfInBounds, Array.toList_setIfInBounds, List.take_set, h7, hx]
theorem Sl.frozen {w : World} {base g n c : Nat} {L : List SgT} (h : Sl w base (.slice (some ⟨g, 0, none⟩) n c) L) (i : Nat) : w.frozen? ⟨g, i, none⟩ = false := by
  rcases h.2 with ⟨hv, _⟩ | ⟨g', cap, cur, hv, h2, h3, _⟩
  · cases hv
  · injection hv with hv hn hc
    injection hv with hv
    injection hv with hv _ _
    subst hv
    simp [World.frozen?, h3]
theorem sgv_set (A : List SgT) (x y : SgT) (B : List SgT) (hf : y.f = x.f) : (sgv (A ++ x :: B)).set (A.length * 2 + 1) (.slice y.a y.ch.length y.c) = sgv (A ++ y :: B) := by
  rw [sgv_append, sgv_append, List.set_append, if_neg (by simp)]
  congr 1
  simp [sgv, hf]
structure LySm (A : LyT) : Prop where
  n : 0 < A.sg.length ∧ A.sg.length ≤ 4
  s : ∀ k, k < A.sg.length → (0 < (st A.sg k).ch.length ∧ (st A.sg k).ch.length ≤ 4) ∧ ∀ T ∈ (st A.sg k).ch, 0 < T.u.length ∧ T.u.length ≤ 4
theorem LySm.of {A : LyT} (h : lright A.x = true) : LySm A := by
  have v := SgV.of h
  refine ⟨v.n, fun k hk => ⟨(v.sg k hk).2.1, fun T hT => ?_⟩⟩
  obtain ⟨j, hj, rfl⟩ := List.getElem_of_mem hT
  have := ((v.sg k hk).2.2 j hj).1
  have e : ct (st A.sg k).ch j = (st A.sg k).ch[j] := by simp [ct, List.getD, hj]
  rw [e] at this
  exact this
end Go.Proofs.YtcadnlilijkneaaGreat
namespace Go.Proofs.YtcadnlilijkneaaGreat
open Go.RowKit Go.Deep Go.Shelf
set_option linter.unusedVariables false
set_option linter.unusedSimpArgs false

theorem low_chg {a w : World} (h : Below a.heap.size a w) : Chg [] a w := (Chg.refl [] a).of_below h
def RoP (w : World) (P : Nat → Prop) (a : Option Addr) (vs : List Value) : Prop := vs = [] ∨ ∃ b off, a = some ⟨b, off, none⟩ ∧ b < w.heap.size ∧ P b ∧ ∀ i, i < vs.length → w.cell? ⟨b, off + i, none⟩ = some (vs.getD i undef)
theorem RoP.ro {w : World} {P : Nat → Prop} {a : Option Addr} {vs : List Value} (h : RoP w P a vs) : Ro w w.heap.size a vs := by
  rcases h with h | ⟨b, off, h1, h2, h3, h4⟩
  · exact .inl h
  · exact .inr ⟨b, off, h1, h2, h4⟩
theorem RoP.chg {w w' : World} {P : Nat → Prop} {l : List Nat} {a : Option Addr} {vs : List Value} (h : RoP w P a vs) (hc : Chg l w w') (hl : ∀ x, P x → x ∉ l) : RoP w' P a vs := by
  rcases h with h | ⟨b, off, h1, h2, h3, h4⟩
  · exact .inl h
  · exact .inr ⟨b, off, h1, Nat.lt_of_lt_of_le h2 hc.size, h3, fun i hi => hc.cell (h4 i hi) (hl b h3)⟩
theorem RoP.mono {w : World} {P P' : Nat → Prop} {a : Option Addr} {vs : List Value} (h : RoP w P a vs) (hp : ∀ x, x < w.heap.size → P x → P' x) : RoP w P' a vs := by
  rcases h with h | ⟨b, off, h1, h2, h3, h4⟩
  · exact .inl h
  · exact .inr ⟨b, off, h1, h2, hp b h2 h3, h4⟩
theorem Ro.roP {w : World} {B : Nat} {a : Option Addr} {vs : List Value} (h : Ro w B a vs) (hB : B ≤ w.heap.size) : RoP w (fun x => x < B) a vs := by
  rcases h with h | ⟨b, off, h1, h2, h3⟩
  · exact .inl h
  · exact .inr ⟨b, off, h1, by omega, h2, h3⟩
theorem Lst.roP {w : World} {base : Nat} {e : TypeId} {a : Option Addr} {n c : Nat} {xs : List Value} (h : Lst w base e (.slice a n c) xs) : RoP w (fun x => base ≤ x) a xs := by
  obtain ⟨a', c', h1, h2, _⟩ := h.form
  injection h1 with h1 _ _
  subst h1
  rcases h2 with h2 | ⟨b, off, g1, g2, g3⟩
  · exact .inl h2
  · refine .inr ⟨b, off, g1, g2, ?_, g3⟩
    have := h.row b (by rw [g1]; simp [rowOf, Value.ownBlock])
    exact this.1
theorem Sl.roP {w : World} {base : Nat} {a : Option Addr} {n c : Nat} {L : List SgT} (h : Sl w base (.slice a n c) L) : RoP w (fun x => base ≤ x) a (sgv L) := by
  obtain ⟨a', c', h1, h2, _⟩ := h.form
  injection h1 with h1 _ _
  subst h1
  rcases h2 with h2 | ⟨b, off, g1, g2, g3⟩
  · exact .inl h2
  · refine .inr ⟨b, off, g1, g2, ?_, g3⟩
    have := h.row b (by rw [g1]; simp [rowOf, Value.ownBlock])
    exact this.1
def LyP (w : World) (P : Nat → Prop) (A : LyT) : Prop := RoP w P A.a (sgv A.sg) ∧ ∀ s ∈ A.sg, RoP w P s.a (chv s.ch) ∧ ∀ c ∈ s.ch, RoP w P c.a (i64s c.u)
theorem LyP.inn {w : World} {P : Nat → Prop} {A : LyT} (h : LyP w P A) : LyIn w w.heap.size A := ⟨h.1.ro, fun s hs => ⟨(h.2 s hs).1.ro, fun c hc => ((h.2 s hs).2 c hc).ro⟩⟩
theorem LyP.chg {w w' : World} {P : Nat → Prop} {l : List Nat} {A : LyT} (h : LyP w P A) (hc : Chg l w w') (hl : ∀ x, P x → x ∉ l) : LyP w' P A := ⟨h.1.chg hc hl, fun s hs => ⟨(h.2 s hs).1.chg hc hl, fun c hm => ((h.2 s hs).2 c hm).chg hc hl⟩⟩
theorem LyP.mono {w : World} {P P' : Nat → Prop} {A : LyT} (h : LyP w P A) (hp : ∀ x, x < w.heap.size → P x → P' x) : LyP w P' A := ⟨h.1.mono hp, fun s hs => ⟨(h.2 s hs).1.mono hp, fun c hm => ((h.2 s hs).2 c hm).mono hp⟩⟩
theorem LyIn.lyP {w : World} {B : Nat} {A : LyT} (h : LyIn w B A) (hB : B ≤ w.heap.size) : LyP w (fun x => x < B) A := ⟨h.1.roP hB, fun s hs => ⟨(h.2 s hs).1.roP hB, fun c hm => ((h.2 s hs).2 c hm).roP hB⟩⟩
def LyS (A : LyT) : Prop := (A.sg = [] ∧ A.a = none ∧ A.c = 0) ∨ LySm A
theorem sgx_app (A B : List SgT) : sgx (A ++ B) = sgx A ++ sgx B := by simp [sgx]
theorem st_at {A B : List SgT} {x : SgT} {k : Nat} (h : A.length = k) : st (A ++ x :: B) k = x := by
  subst h
  simp [st, List.getD]
theorem drop_st {L : List SgT} {k : Nat} (h : k < L.length) : L.drop k = st L k :: L.drop (k + 1) := by
  rw [List.drop_eq_getElem_cons h]
  congr 1
  simp [st, List.getD, h]
theorem drop_ct {L : List ChT} {k : Nat} (h : k < L.length) : L.drop k = ct L k :: L.drop (k + 1) := by
  rw [List.drop_eq_getElem_cons h]
  congr 1
  simp [ct, List.getD, h]
theorem Sl.at_ {w : World} {base g n c : Nat} {L : List SgT} (h : Sl w base (.slice (some ⟨g, 0, none⟩) n c) L) (i : Nat) (hi : i < L.length) : w.cell? ⟨g, i * 2, none⟩ = some (.int .u64 ((st L i).f : Int)) ∧ w.cell? ⟨g, i * 2 + 1, none⟩ = some (.slice (st L i).a (st L i).ch.length (st L i).c) := by
  obtain ⟨a', c', h1, h2, _⟩ := h.form
  injection h1 with h1 _ _
  subst h1
  obtain ⟨b, off, g1, _, g3⟩ := h2.sg (by omega)
  injection g1 with g1
  injection g1 with g1 g2 _
  subst g1 g2
  have := g3 i hi
  simpa using this
theorem Lst.at_ {w : World} {base g n c : Nat} {e : TypeId} {L : List Value} (h : Lst w base e (.slice (some ⟨g, 0, none⟩) n c) L) (i : Nat) (hi : i < L.length) : w.cell? ⟨g, i, none⟩ = some (L.getD i undef) := by
  obtain ⟨a', c', h1, h2, _⟩ := h.form
  injection h1 with h1 _ _
  subst h1
  rcases h2 with h2 | ⟨b, off, g1, g2, g3⟩
  · rw [h2] at hi; simp at hi
  · injection g1 with g1
    injection g1 with g1 go _
    subst g1 go
    simpa using g3 i hi
theorem chv_set (A : List ChT) (x y : ChT) (B : List ChT) : (chv (A ++ x :: B)).set A.length y.val = chv (A ++ y :: B) := by
  unfold chv
  rw [List.map_append, List.map_append, List.set_append, if_neg (by simp)]
  simp
theorem Own.notSl {w : World} {g : Nat} {t : TypeId} {cs : List Value} {L : List SgT} {base g' n c : Nat} (h : Own w g t cs) (hl : Sl w base (.slice (some ⟨g', 0, none⟩) n c) L) (hne : 84 ≠ t) : g ≠ g' := by
  intro he
  subst he
  obtain ⟨_, cur, h2⟩ := hl.row g (by simp [rowOf, Value.ownBlock])
  unfold Own at h
  rw [h] at h2
  injection h2 with h2
  injection h2 with _ h2 _
  exact hne h2.symm
set_option maxHeartbeats 4000000 in
theorem copyA_sm (A : LyT) (B : Nat) (w : World) (h : LyIn w B A) (hB : B ≤ w.heap.size) (hs : LySm A) :
    Calls Tryz.prog 59 #[A.val] w fun e w' => ∃ A' : LyT, e = .returned A'.val ∧ A'.x = A.x ∧ A'.sg.length = A.sg.length ∧ LyP w' (fun x => w.heap.size ≤ x) A' ∧ Chg [] w w' := by
  obtain ⟨ae, a, c, L, q⟩ := A
  obtain ⟨W, HW⟩ : ∃ W, Hid ((w.alloc (.cells #[.int .u64 (ae : Int), .slice a L.length c, .int .i64 q] 26)).alloc (.cells #[.int .u64 0, .slice none 0 0, .int .i64 0] 26) = W) := ⟨_, Lib.hid rfl⟩
  have hb : Below w.heap.size w W := by rw [← HW.out]; exact (((Chg.refl [] w).alloc _).alloc _).low
  have ho0 : Own W w.heap.size 26 [.int .u64 (ae : Int), .slice a L.length c, .int .i64 q] := by rw [← HW.out]; exact (Own.new w _ _).alloc _
  have ho1 : Own W (w.heap.size + 1) 26 [.int .u64 0, .slice none 0 0, .int .i64 0] := by
    rw [← HW.out]
    have := Own.new (w.alloc (.cells #[.int .u64 (ae : Int), .slice a L.length c, .int .i64 q] 26)) 26 [.int .u64 0, .slice none 0 0, .int .i64 0]
    simpa using this
  have hsz : W.heap.size = w.heap.size + 2 := by rw [← HW.out]; simp
  simp only [LyT.val, LyT.x] at *
  have HIN := Lib.hid h.2
  have HCS := Lib.hid (cloneS_any a c B L W (h.1.below hb hB) hs.n.1 (by have := hs.n.2; simp only at this; omega))
  have HSM := Lib.hid hs.s
  obtain ⟨n, HN⟩ : ∃ n, Hid (L.length = n) := ⟨_, Lib.hid rfl⟩
  have hn1 : (n : Int) ≤ 4 := by have := hs.n.2; have := HN.out; simp only at *; omega
  have HBW := Lib.hid hB
  rw [HN.out] at HCS HW ho0 ⊢
  have c1 := ho0.cell 1
  have f1 := ho0.frozen 1
  simp at c1
  have HO := Lib.hid (And.intro ho0 (And.intro ho1 hb))
  have HSZ := Lib.hid hsz
  clear h hB hs hb ho0 ho1 hsz
  go_enter Tryz.func59, Tryz.ntmps59
  go_upto_region 1 with fail
  rw [HW.out]
  go_wp2_with fail
  refine HCS.out.mono ?_
  rintro e w1 ⟨g, c', rfl, hl1, hb1⟩
  have d1 := cell_keep hb1 c1 (World.block_lt_of_cell? _ _ c1)
  have e1 : w1.frozen? ⟨w.heap.size, 1, none⟩ = false := (HO.out.1.below hb1 HO.out.1.lt).frozen 1
  have HL1 := Lib.hid hl1
  have HB1 := Lib.hid hb1
  have hb1s : w.heap.size ≤ W.heap.size := HO.out.2.2.size
  clear hl1 hb1 c1 f1
  have HO1 : Hid (Own (w1.setCell ⟨w.heap.size, 1, none⟩ (.slice (some ⟨g, 0, none⟩) n c')) w.heap.size 26 [.int .u64 (ae : Int), .slice (some ⟨g, 0, none⟩) n c', .int .i64 q]) := Lib.hid (by simpa using (HO.out.1.below HB1.out HO.out.1.lt).set 1 _)
  have HO2 : Hid (Own (w1.setCell ⟨w.heap.size, 1, none⟩ (.slice (some ⟨g, 0, none⟩) n c')) (w.heap.size + 1) 26 [.int .u64 0, .slice none 0 0, .int .i64 0]) := Lib.hid ((HO.out.2.1.below HB1.out HO.out.2.1.lt).far (by simp) _)
  have HG : Hid (w.heap.size ≤ g) := Lib.hid (Nat.le_trans hb1s (HL1.out.row g (by simp [rowOf, Value.ownBlock])).1)
  have HSL1 : Hid (Sl (w1.setCell ⟨w.heap.size, 1, none⟩ (.slice (some ⟨g, 0, none⟩) n c')) w.heap.size (.slice (some ⟨g, 0, none⟩) n c') L) := Lib.hid (by
    have h9 := (HL1.out.base hb1s).chgc ((Chg.refl [w.heap.size] w1).setCell (p := ⟨w.heap.size, 1, none⟩) (by simp) (.slice (some ⟨g, 0, none⟩) n c')) ((HO.out.1.below HB1.out HO.out.1.lt).notT' (by decide))
    exact h9)
  have HB2 : Hid (Below w.heap.size w (w1.setCell ⟨w.heap.size, 1, none⟩ (.slice (some ⟨g, 0, none⟩) n c'))) := Lib.hid ((HO.out.2.2.trans (HB1.out.mono hb1s)).setCell (Nat.le_refl _) _)
  go_upto_region 2 with fail
  generalize w1.setCell ⟨w.heap.size, 1, none⟩ (.slice (some ⟨g, 0, none⟩) n c') = w3 at HO1 HO2 HSL1 HB2 ⊢
  have c3 := HO1.out.cell 1
  simp at c3
  go_wp2_with fail
  clear c3
  go_loopw [15] (fun i wr => ∃ (k : Nat) (Gs : List SgT), k ≤ n ∧ i = .int .i64 (k : Int) ∧ Hid (Gs.length = k ∧ sgx Gs = (sgx L).take k) ∧ Hid (Sl wr w.heap.size (.slice (some ⟨g, 0, none⟩) n c') (Gs ++ L.drop k)) ∧ Hid (GwS wr w.heap.size Gs) ∧ Hid (Own wr w.heap.size 26 [.int .u64 (ae : Int), .slice (some ⟨g, 0, none⟩) n c', .int .i64 q] ∧ Own wr (w.heap.size + 1) 26 [.int .u64 0, .slice none 0 0, .int .i64 0]) ∧ Hid (Below w.heap.size w wr)) (fun i _ => n - (Go.RowKit.intOf i).toNat)
  case atStart => exact ⟨0, [], Nat.zero_le _, rfl, Lib.hid ⟨rfl, by simp [sgx]⟩, by simpa using HSL1, Lib.hid (fun _ h => by cases h), Lib.hid ⟨HO1.out, HO2.out⟩, HB2⟩
  case round =>
    obtain ⟨k, Gs, hk, rfl, HK, HLk, HGk, HOk, HBk⟩ := hrel
    rename World => wr
    by_cases hlt : k < n
    · have hkL : k < L.length := by rw [HN.out]; exact hlt
      have hst : st (Gs ++ L.drop k) k = st L k := by rw [drop_st hkL]; exact st_at HK.out.1
      have hat := HLk.out.at_ k (by rw [List.length_append, List.length_drop, HK.out.1, HN.out]; omega)
      rw [hst] at hat
      obtain ⟨q0, q1⟩ := hat
      have HRT := Lib.hid ((HIN.out (st L k) (st_mem hkL)).1.below HBk.out HBW.out)
      have HCT := Lib.hid ((HIN.out (st L k) (st_mem hkL)).2.below HBk.out HBW.out)
      have HSk := Lib.hid (HSM.out k hkL)
      have HDR := Lib.hid (drop_st hkL)
      have HXK : Hid ((sgx L).take (k + 1) = (sgx L).take k ++ [(st L k).x]) := Lib.hid (by
        have hk9 : k < (sgx L).length := by simpa using hkL
        rw [List.take_succ_eq_append_getElem hk9]
        congr 2
        simp [sgx, st, List.getD, hkL])
      have hk0 : (0 : Int) ≤ (k : Int) := by omega
      have hk1 : (k : Int) < (n : Int) := by omega
      have h0 := HOk.out.1.cell 1
      simp at h0
      clear hst hkL
      generalize st L k = S0 at *
      obtain ⟨sf, sa, sc, sch⟩ := S0
      simp only at q0 q1 HRT HCT HSk
      obtain ⟨m, HM⟩ : ∃ m, Hid (sch.length = m) := ⟨_, Lib.hid rfl⟩
      have hm1 : (m : Int) ≤ 4 := by have := HSk.out.1.2; have := HM.out; omega
      rw [HM.out] at q1
      have HCC : Hid (∀ W, Below wr.heap.size wr W → Calls Tryz.prog 103 #[.slice sa m sc] W fun e w' => ∃ g c', e = .returned (.slice (some ⟨g, 0, none⟩) m c') ∧ Lst w' W.heap.size 46 (.slice (some ⟨g, 0, none⟩) m c') (chv sch) ∧ Below W.heap.size W w') := Lib.hid (fun W hW => by
        have h9 := cloneC_any sa sc B sch W (HRT.out.below hW (Nat.le_trans HBW.out HBk.out.size)) HSk.out.1.1 (by have := HSk.out.1.2; omega)
        rw [HM.out] at h9
        exact h9)
      have HCI : Hid (∀ W, Below wr.heap.size wr W → ∀ T ∈ sch, Calls Tryz.prog 104 #[.slice T.a T.u.length T.c] W fun e w' => ∃ v, e = .returned v ∧ Lst w' W.heap.size 3 v (i64s T.u) ∧ Below W.heap.size W w') := Lib.hid (fun W hW T hT =>
        clone_int T.a T.c B T.u W ((HCT.out T hT).below hW (Nat.le_trans HBW.out HBk.out.size)) (HSk.out.2 T hT).1 (by have := (HSk.out.2 T hT).2; omega))
      have HA := Lib.hid ((Chg.refl [] wr).alloc (.cells #[.int .u64 (sf : Int), .slice sa m sc] 84)).low
      go_wp2_with fail
      refine (HCC.out _ HA.out).mono ?_
      rintro e w4 ⟨g2, c2, rfl, hl4, hb4⟩
      have hz4 : wr.heap.size ≤ (wr.alloc (.cells #[.int .u64 (sf : Int), .slice sa m sc] 84)).heap.size := HA.out.size
      have HL4 := Lib.hid (hl4.base hz4)
      have HB4 : Hid (Below wr.heap.size wr w4) := Lib.hid (HA.out.trans (hb4.mono hz4))
      clear hl4 hb4 hz4 q0 q1
      go_wp2_with fail
      rename World => w4
      go_loopw [25] (fun i wq => ∃ (j : Nat) (Ts : List ChT), j ≤ m ∧ i = .int .i64 (j : Int) ∧ Hid (Ts.length = j ∧ chx Ts = (chx sch).take j) ∧ Hid (Lst wq wr.heap.size 46 (.slice (some ⟨g2, 0, none⟩) m c2) (chv (Ts ++ sch.drop j))) ∧ Hid (GwC wq wr.heap.size Ts) ∧ Hid (Below wr.heap.size wr wq)) (fun i _ => m - (Go.RowKit.intOf i).toNat)
      case atStart => exact ⟨0, [], Nat.zero_le _, rfl, Lib.hid ⟨rfl, by simp [chx]⟩, by simpa using HL4, Lib.hid (fun _ h => by cases h), HB4⟩
      case round =>
        obtain ⟨j, Ts, hj, rfl, HJ, HLj, HGj, HBj⟩ := hrel
        rename World => wq
        by_cases hlt2 : j < m
        · have hjL : j < sch.length := by rw [HM.out]; exact hlt2
          have hlen : (chv (Ts ++ sch.drop j)).length = m := by rw [chv_length, List.length_append, List.length_drop, HJ.out.1, HM.out]; omega
          have e1 := HLj.out.at_ j (by omega)
          have ek : (chv (Ts ++ sch.drop j)).getD j undef = (ct sch j).val := by
            unfold chv
            rw [drop_ct hjL, List.map_append, List.map_cons]
            simp [List.getD, List.getElem?_append_right, HJ.out.1]
          rw [ek] at e1
          have HC := Lib.hid (HCI.out wq HBj.out (ct sch j) (ct_mem hjL))
          have HDC := Lib.hid (drop_ct hjL)
          have HXJ : Hid ((chx sch).take (j + 1) = (chx sch).take j ++ [(ct sch j).u]) := Lib.hid (by rw [cx_take (by simpa using hjL), cx_chx])
          have HLEN := Lib.hid hlen
          have hj0 : (0 : Int) ≤ (j : Int) := by omega
          have hj1 : (j : Int) < (m : Int) := by omega
          clear ek hlen hjL
          generalize ct sch j = T0 at *
          obtain ⟨ta, tc, tu⟩ := T0
          simp only [ChT.val] at e1 HC
          generalize tu.length = tn at e1 HC
          go_wp2_with fail
          refine HC.out.mono ?_
          rintro e w5 ⟨v5, rfl, hl5, hb5⟩
          obtain ⟨a5, c5, hv5, _, _⟩ := hl5.form
          rw [i64s_length] at hv5
          have HV5 : Hid (v5 = ChT.val ⟨a5, c5, tu⟩) := Lib.hid hv5
          have HL5 : Hid (Lst w5 wr.heap.size 3 (ChT.val ⟨a5, c5, tu⟩) (i64s tu)) := Lib.hid (by rw [← HV5.out]; exact hl5.base HBj.out.size)
          have HB5 : Hid (Below wr.heap.size wr w5) := Lib.hid (HBj.out.trans (hb5.mono HBj.out.size))
          have HLj5 : Hid (Lst w5 wr.heap.size 46 (.slice (some ⟨g2, 0, none⟩) m c2) (chv (Ts ++ sch.drop j))) := Lib.hid (HLj.out.below hb5 (Nat.le_refl _))
          have HGj5 : Hid (GwC w5 wr.heap.size Ts) := Lib.hid (fun T hT => (HGj.out T hT).below hb5 (Nat.le_refl _))
          have f5 := HLj5.out.frozen j
          have hy := cell_keep hb5 e1 (World.block_lt_of_cell? _ _ e1)
          have hz5 := World.block_lt_of_cell? _ _ hy
          simp only at hz5
          clear hl5 hb5 e1
          subst hv5
          go_wp2_with fail
          go_roundw
          case rel =>
            refine ⟨j + 1, Ts ++ [⟨a5, c5, tu⟩], by omega, by go_num, Lib.hid ⟨by rw [List.length_append, HJ.out.1]; rfl, ?_⟩, Lib.hid ?_, Lib.hid ?_, Lib.hid (HB5.out.setCell ?_ _)⟩
            · rw [HXJ.out, ← HJ.out.2]; simp [chx]
            · have h9 := HLj5.out.set j (by rw [HLEN.out]; exact hlt2) (ChT.val ⟨a5, c5, tu⟩)
              rw [HDC.out, ← HJ.out.1, chv_set] at h9
              rw [HJ.out.1] at h9
              simpa [ChT.val] using h9
            · intro T hT
              have h1 : Lst w5 wr.heap.size 3 T.val (i64s T.u) := by
                rcases List.mem_append.1 hT with h | h
                · exact HGj5.out T h
                · simp only [List.mem_singleton] at h
                  subst h
                  exact HL5.out
              refine h1.chgc ((Chg.refl [g2] w5).setCell (by simp) _) (fun x hx cur he => ?_)
              simp only [List.mem_singleton] at hx
              subst hx
              obtain ⟨_, cur', h2⟩ := HLj5.out.row x (by simp [rowOf, Value.ownBlock])
              rw [he] at h2
              injection h2 with h2
              injection h2 with _ h2 _
              exact absurd h2 (by decide)
            · exact (HLj5.out.row g2 (by simp [rowOf, Value.ownBlock])).1
          case measure => simp [Go.RowKit.intOf]; omega
        · obtain rfl : j = m := by omega
          have HLj6 : Hid (Lst wq wr.heap.size 46 (.slice (some ⟨g2, 0, none⟩) j c2) (chv Ts)) := Lib.hid (by
            have h9 := HLj.out
            rwa [List.drop_of_length_le (by rw [HM.out]; exact Nat.le_refl _), List.append_nil] at h9)
          have HTL : Hid (Ts.length = j ∧ chx Ts = chx sch) := Lib.hid ⟨HJ.out.1, by rw [HJ.out.2, List.take_of_length_le (by rw [chx_length, HM.out]; exact Nat.le_refl _)]⟩
          have HOq : Hid (Own wq w.heap.size 26 [.int .u64 (ae : Int), .slice (some ⟨g, 0, none⟩) n c', .int .i64 q] ∧ Own wq (w.heap.size + 1) 26 [.int .u64 0, .slice none 0 0, .int .i64 0]) := Lib.hid ⟨HOk.out.1.below HBj.out HOk.out.1.lt, HOk.out.2.below HBj.out HOk.out.2.lt⟩
          have HLq : Hid (Sl wq w.heap.size (.slice (some ⟨g, 0, none⟩) n c') (Gs ++ L.drop k)) := Lib.hid (HLk.out.below HBj.out)
          have HGq : Hid (GwS wq w.heap.size Gs) := Lib.hid (fun T hT => ⟨(HGk.out T hT).1.below HBj.out (Nat.le_refl _), fun c hc => ((HGk.out T hT).2 c hc).below HBj.out (Nat.le_refl _)⟩)
          have c0 := HOq.out.1.cell 1
          simp at c0
          have hlk : (Gs ++ L.drop k).length = n := by rw [List.length_append, List.length_drop, HK.out.1, HN.out]; omega
          obtain ⟨c1, c2'⟩ := HLq.out.at_ k (by omega)
          have z2 := HLq.out.frozen (k * 2 + 1)
          have HLK := Lib.hid hlk
          clear hlk
          go_wp2_with fail
          go_roundw
          case rel =>
            have hT : Hid (Own wq g 84 (wq.heap[g]?.elim [] (fun o => match o with | .cells c _ _ => c.toList | _ => []))) := Lib.hid (by
              obtain ⟨_, cur, h2⟩ := HLq.out.row g (by simp [rowOf, Value.ownBlock])
              unfold Own
              rw [h2]
              simp)
            refine ⟨k + 1, Gs ++ [⟨sf, some ⟨g2, 0, none⟩, c2, Ts⟩], by omega, by go_num, Lib.hid ⟨by rw [List.length_append, HK.out.1]; rfl, ?_⟩, Lib.hid ?_, Lib.hid ?_, Lib.hid ⟨?_, ?_⟩, Lib.hid ((HBk.out.trans (HBj.out.mono HBk.out.size)).setCell ?_ _)⟩
            · rw [HXK.out, ← HK.out.2, sgx_app]
              congr 1
              simp only [sgx, List.map_cons, List.map_nil, SgT.x, HTL.out.2]
            · have h8 := HLq.out
              rw [HDR.out] at h8
              have h9 := h8.set (L' := Gs ++ ⟨sf, some ⟨g2, 0, none⟩, c2, Ts⟩ :: L.drop (k + 1)) (k * 2 + 1) (by rw [List.length_append, HK.out.1, List.length_cons]; omega) (.slice (some ⟨g2, 0, none⟩) Ts.length c2) (by simp) (by rw [← HK.out.1]; exact sgv_set Gs ⟨sf, sa, sc, sch⟩ ⟨sf, some ⟨g2, 0, none⟩, c2, Ts⟩ _ rfl)
              rw [HTL.out.1] at h9
              simpa using h9
            · have hk1 : GwS wq w.heap.size (Gs ++ [⟨sf, some ⟨g2, 0, none⟩, c2, Ts⟩]) := fun T hT => by
                rcases List.mem_append.1 hT with h | h
                · exact HGq.out T h
                · simp only [List.mem_singleton] at h
                  subst h
                  refine ⟨?_, fun c hc => (HGj.out c hc).base HBk.out.size⟩
                  show Lst wq w.heap.size _ (.slice (some ⟨g2, 0, none⟩) Ts.length c2) _
                  rw [HTL.out.1]
                  exact HLj6.out.base HBk.out.size
              exact hk1.chgc ((Chg.refl [g] wq).setCell (by simp) _) (hT.out.notT' (by decide)) (hT.out.notT' (by decide))
            · exact HOq.out.1.far (HOq.out.1.notSl HLq.out (by decide)) _
            · exact HOq.out.2.far (HOq.out.2.notSl HLq.out (by decide)) _
            · exact HG.out
          case measure => simp [Go.RowKit.intOf]; omega
    · obtain rfl : k = n := by omega
      have hLk := HLk.out
      rw [List.drop_of_length_le (by rw [HN.out]; exact Nat.le_refl _), List.append_nil] at hLk
      have HLk2 := Lib.hid hLk
      have HX2 : Hid (Gs.length = k ∧ sgx Gs = sgx L) := Lib.hid ⟨HK.out.1, by rw [HK.out.2, List.take_of_length_le (by rw [sgx_length, HN.out]; exact Nat.le_refl _)]⟩
      have c0 := HOk.out.1.cell 0
      have c1 := HOk.out.1.cell 1
      have c2 := HOk.out.1.cell 2
      have d0 := HOk.out.2.cell 0
      have d1 := HOk.out.2.cell 1
      have d2 := HOk.out.2.cell 2
      have f0 := HOk.out.2.frozen 0
      have f1 := HOk.out.2.frozen 1
      have f2 := HOk.out.2.frozen 2
      simp at c0 c1 c2 d0 d1 d2
      have HR : Hid (Own (((wr.setCell ⟨w.heap.size + 1, 0, none⟩ (.int .u64 (ae : Int))).setCell ⟨w.heap.size + 1, 1, none⟩ (.slice (some ⟨g, 0, none⟩) k c')).setCell ⟨w.heap.size + 1, 2, none⟩ (.int .i64 q)) (w.heap.size + 1) 26 [.int .u64 (ae : Int), .slice (some ⟨g, 0, none⟩) k c', .int .i64 q]) := Lib.hid (by
        have h9 := ((HOk.out.2.set 0 (.int .u64 (ae : Int))).set 1 (.slice (some ⟨g, 0, none⟩) k c')).set 2 (.int .i64 q)
        simpa using h9)
      have HCH : Hid (Chg [w.heap.size + 1] wr (((wr.setCell ⟨w.heap.size + 1, 0, none⟩ (.int .u64 (ae : Int))).setCell ⟨w.heap.size + 1, 1, none⟩ (.slice (some ⟨g, 0, none⟩) k c')).setCell ⟨w.heap.size + 1, 2, none⟩ (.int .i64 q))) := Lib.hid ((((Chg.refl _ wr).setCell (by simp) _).setCell (by simp) _).setCell (by simp) _)
      clear hLk
      go_wp2_with fail
      generalize ((wr.setCell ⟨w.heap.size + 1, 0, none⟩ (.int .u64 (ae : Int))).setCell ⟨w.heap.size + 1, 1, none⟩ (.slice (some ⟨g, 0, none⟩) k c')).setCell ⟨w.heap.size + 1, 2, none⟩ (.int .i64 q) = wz at *
      refine bodyPost_ret (results_cell_row Tryz.results59 _ _ (w.heap.size + 1) 26 _ (0, 0) _ rfl HR.out Tryz.underlying26 rfl (by kernel_rfl)) rfl ?_
      have hSl := HLk2.out.chgc HCH.out (HOk.out.2.notT' (by decide))
      have hGw := HGk.out.chgc HCH.out (HOk.out.2.notT' (by decide)) (HOk.out.2.notT' (by decide))
      refine ⟨⟨ae, some ⟨g, 0, none⟩, c', Gs, q⟩, ?_, ?_, ?_, ⟨hSl.roP, fun s hs => ⟨(hGw s hs).1.roP, fun c hc => Lst.roP (n := c.u.length) (c := c.c) ((hGw s hs).2 c hc)⟩⟩, ?_⟩
      · simp only [LyT.val, HX2.out.1]
      · simp only [LyT.x, HX2.out.2]
      · simp only [HX2.out.1]
      · exact low_chg (HBk.out.trans (HCH.out.below HBk.out.size (fun x hx => by simp only [List.mem_singleton] at hx; subst hx; exact Nat.le_succ _)))
end Go.Proofs.YtcadnlilijkneaaGreat
