/-
  Rows of a call of its own, set at a place. Plain lemmas, no claim of their own.
-/
import Derived.Test.YtihbinphmlgjoaaGreatGa7
import Derived.Test.YtihbinphmlgjoaaGreatGa4
import Derived.Test.YtihbinphmlgjoaaGreatGa8
import Derived.Test.YtihbinphmlgjoaaGreatGa9
namespace Go.Proofs.YtihbinphmlgjoaaGreat
open Go.RowKit Go.Deep Go.Shelf
set_option linter.unusedVariables false
set_option linter.unusedSimpArgs false

/-- one element of a row of the call's own is set -/
theorem Lst.set {w : World} {base : Nat} {e : TypeId} {g n c : Nat} {xs : List Value} (h : Lst w base e (.slice (some ⟨g, 0, none⟩) n c) xs) (i : Nat) (hi : i < xs.length) (u : Value) : Lst (w.setCell ⟨g, i, none⟩ u) base e (.slice (some ⟨g, 0, none⟩) n c) (xs.set i u) := by
  refine ⟨by simp, ?_⟩
  rcases h.2 with ⟨hv, _⟩ | ⟨g', cap, cur, hv, h2, h3, h4, h5, h6, h7⟩
  · cases hv
  · injection hv with hv hn hc
    injection hv with hv
    injection hv with hv _ _
    subst hv hc
    refine .inr ⟨g, c, cur.set! i u, by rw [hn]; simp, h2, ?_, by simpa using h4, h5, by simpa using h6, ?_⟩
    · have : Own w g e cur.toList := by unfold Own; simpa using h3
      have := this.set i u
      unfold Own at this
      rw [this]
      congr 2
      apply Array.ext'
      simp
    · rw [List.length_set, Array.set!_eq_setIfInBounds, Array.toList_setIfInBounds, List.take_set, h7]
theorem Lst.frozen {w : World} {base : Nat} {e : TypeId} {g n c : Nat} {xs : List Value} (h : Lst w base e (.slice (some ⟨g, 0, none⟩) n c) xs) (i : Nat) : w.frozen? ⟨g, i, none⟩ = false := by
  rcases h.2 with ⟨hv, _⟩ | ⟨g', cap, cur, hv, h2, h3, _⟩
  · cases hv
  · injection hv with hv hn hc
    injection hv with hv
    injection hv with hv _ _
    subst hv
    simp [World.frozen?, h3]

end Go.Proofs.YtihbinphmlgjoaaGreat
namespace Go.Proofs.YtihbinphmlgjoaaGreat
open Go.RowKit Go.Deep Go.Shelf
set_option linter.unusedVariables false
set_option linter.unusedSimpArgs false

theorem i64s_one (bs : List Int) : ∀ v ∈ i64s bs, v.oneCell' = true := by
  intro v hv
  simp only [i64s, List.mem_map] at hv
  obtain ⟨x, _, rfl⟩ := hv
  rfl
theorem clone_int (a : Option Addr) (c B : Nat) (L : List Int) (w : World) (hro : Ro w B a (i64s L)) (h0 : 0 < L.length) (hl : L.length ≤ 1000000) :
    Calls Tryz.prog 103 #[.slice a L.length c] w fun e w' => ∃ v, e = .returned v ∧ Lst w' w.heap.size 3 v (i64s L) ∧ Below w.heap.size w w' := by
  obtain ⟨i, hi, hz⟩ := Option.map_eq_some_iff.1 Tryz.info_i64
  simp only [Prod.mk.injEq] at hz
  obtain ⟨b, off, rfl, hb, hc⟩ := hro.i64 h0
  refine (AnyE.slices_Clone cloneI i (.int .i64 0) 1 8 hi hz.1 hz.2.1 hz.2.2 rfl (by omega) (fun w => Tryz.sizeOf3 w) b off L.length c (i64s L) w (by simp) (by unfold maxLen; omega) (by omega) (fun j u hj => ?_) (i64s_one L)).mono ?_
  · have hj' : j < L.length := by simpa using (List.getElem?_eq_some_iff.1 hj).1
    rw [hc j hj', ← i64s_getD L j hj']
    simp [List.getD, hj]
  · rintro e w' ⟨v, rfl, h1, _, h2⟩
    refine ⟨v, rfl, ?_, h2⟩
    unfold Lst
    rw [i64s_length]
    exact h1
theorem cloneC_any (a : Option Addr) (c B : Nat) (L : List ChT) (w : World) (hro : Ro w B a (chv L)) (h0 : 0 < L.length) (hl : L.length ≤ 1000000) :
    Calls Tryz.prog 102 #[.slice a L.length c] w fun e w' => ∃ g c', e = .returned (.slice (some ⟨g, 0, none⟩) L.length c') ∧ Lst w' w.heap.size 77 (.slice (some ⟨g, 0, none⟩) L.length c') (chv L) ∧ Below w.heap.size w w' := by
  obtain ⟨i, hi, hz⟩ := Option.map_eq_some_iff.1 Tryz.info_ch
  simp only [Prod.mk.injEq] at hz
  obtain ⟨b, off, rfl, hb, hc⟩ := hro.ch h0
  refine (AnyE.slices_Clone cloneC i (.slice none 0 0) 1 24 hi hz.1 hz.2.1 hz.2.2 rfl (by omega) (fun w => Tryz.sizeOf77 w) b off L.length c (chv L) w (by simp) (by unfold maxLen; omega) (by omega) (fun j u hj => ?_) (chv_one L)).mono ?_
  · have hj' : j < L.length := by simpa using (List.getElem?_eq_some_iff.1 hj).1
    rw [hc j hj', ← hj]
    simp [chv, ct, List.getD, hj', ChT.val]
  · rintro e w' ⟨v, rfl, h1, _, h2⟩
    have hl : Lst w' w.heap.size 77 v (chv L) := by unfold Lst; rw [chv_length]; exact h1
    rcases hl.2 with ⟨_, hn⟩ | ⟨g, cap, cur, hv, hrest⟩
    · rw [chv_length] at hn; omega
    · rw [chv_length] at hv
      rw [hv] at hl
      exact ⟨g, cap, by rw [hv], hl, h2⟩
theorem cloneS_any (a : Option Addr) (c B : Nat) (L : List SgT) (w : World) (hro : Ro w B a (sgv L)) (h0 : 0 < L.length) (hl : L.length ≤ 1000000) :
    Calls Tryz.prog 101 #[.slice a L.length c] w fun e w' => ∃ g c', e = .returned (.slice (some ⟨g, 0, none⟩) L.length c') ∧ Sl w' w.heap.size (.slice (some ⟨g, 0, none⟩) L.length c') L ∧ Below w.heap.size w w' := by
  obtain ⟨i, hi, hz⟩ := Option.map_eq_some_iff.1 Tryz.info_seg
  simp only [Prod.mk.injEq] at hz
  obtain ⟨b, off, rfl, hb, hc⟩ := hro.sg h0
  refine (AnyE.slices_Clone cloneS i (.agg #[.int .u64 0, .slice none 0 0]) 2 32 hi hz.1 hz.2.1 hz.2.2 rfl (by omega) (fun w => Tryz.sizeOf80 w) b off L.length c (sgv L) w (by simp) (by unfold maxLen; omega) (by omega) (fun j u hj => ?_) (sgv_one L)).mono ?_
  · have hj' : j < L.length * 2 := by simpa using (List.getElem?_eq_some_iff.1 hj).1
    obtain ⟨q1, q2⟩ := sgv_get L (j / 2)
    obtain ⟨p1, p2⟩ := hc (j / 2) (by omega)
    have es : L[j / 2]? = some (st L (j / 2)) := by
      have : j / 2 < L.length := by omega
      simp [st, List.getD, this]
    rcases Nat.mod_two_eq_zero_or_one j with e | e
    · have e2 : j = j / 2 * 2 := by omega
      rw [← e2, es, hj] at q1
      rw [← e2] at p1
      rw [p1, q1]
      rfl
    · have e2 : j = j / 2 * 2 + 1 := by omega
      rw [← e2, es, hj] at q2
      rw [Nat.add_assoc, ← e2] at p2
      rw [p2, q2]
      rfl
  · rintro e w' ⟨v, rfl, h1, _, h2⟩
    have hl : Sl w' w.heap.size v L := h1
    rcases hl.2 with ⟨_, hn⟩ | ⟨g, cap, cur, hv, hrest⟩
    · omega
    · rw [hv] at hl
      exact ⟨g, cap, by rw [hv], hl, h2⟩
/-- one word of a row of segments is set -/
theorem Sl.set {w : World} {base g n c : Nat} {L L' : List SgT} (h : Sl w base (.slice (some ⟨g, 0, none⟩) n c) L) (i : Nat) (hi : i < L.length * 2) (u : Value) (hn : L'.length = L.length) (hx : (sgv L).set i u = sgv L') : Sl (w.setCell ⟨g, i, none⟩ u) base (.slice (some ⟨g, 0, none⟩) n c) L' := by
  refine ⟨by simp, ?_⟩
  rcases h.2 with ⟨hv, _⟩ | ⟨g', cap, cur, hv, h2, h3, h4, h5, h6, h7⟩
  · cases hv
  · injection hv with hv hnn hc
    injection hv with hv
    injection hv with hv _ _
    subst hv hc
    refine .inr ⟨g, c, cur.set! i u, by rw [hnn, hn], h2, ?_, by rw [hn]; exact h4, h5, by simpa using h6, ?_⟩
    · have : Own w g 80 cur.toList := by unfold Own; simpa using h3
      have := this.set i u
      unfold Own at this
      rw [this]
      congr 2
      apply Array.ext'
      simp
    · rw [hn, Array.set!_eq_setIfInBounds, Array.toList_setIfInBounds, List.take_set, h7, hx]
theorem Sl.frozen {w : World} {base g n c : Nat} {L : List SgT} (h : Sl w base (.slice (some ⟨g, 0, none⟩) n c) L) (i : Nat) : w.frozen? ⟨g, i, none⟩ = false := by
  rcases h.2 with ⟨hv, _⟩ | ⟨g', cap, cur, hv, h2, h3, _⟩
  · cases hv
  · injection hv with hv hn hc
    injection hv with hv
    injection hv with hv _ _
    subst hv
    simp [World.frozen?, h3]
theorem sgv_set (A : List SgT) (x y : SgT) (B : List SgT) (hf : y.f = x.f) : (sgv (A ++ x :: B)).set (A.length * 2 + 1) (.slice y.a y.ch.length y.c) = sgv (A ++ y :: B) := by
  rw [sgv_append, sgv_append, List.set_append, if_neg (by simp)]
  congr 1
  simp [sgv, hf]
/-- a layout that came in is small -/
structure LySm (A : LyT) : Prop where
  n : 0 < A.sg.length ∧ A.sg.length ≤ 4
  s : ∀ k, k < A.sg.length → (0 < (st A.sg k).ch.length ∧ (st A.sg k).ch.length ≤ 4) ∧ ∀ T ∈ (st A.sg k).ch, 0 < T.u.length ∧ T.u.length ≤ 4
theorem LySm.of {A : LyT} (h : lright A.x = true) : LySm A := by
  have v := SgV.of h
  refine ⟨v.n, fun k hk => ⟨(v.sg k hk).2.1, fun T hT => ?_⟩⟩
  obtain ⟨j, hj, rfl⟩ := List.getElem_of_mem hT
  have := ((v.sg k hk).2.2 j hj).1
  have e : ct (st A.sg k).ch j = (st A.sg k).ch[j] := by simp [ct, List.getD, hj]
  rw [e] at this
  exact this
end Go.Proofs.YtihbinphmlgjoaaGreat
namespace Go.Proofs.YtihbinphmlgjoaaGreat
open Go.RowKit Go.Deep Go.Shelf
set_option linter.unusedVariables false
set_option linter.unusedSimpArgs false

theorem low_chg {a w : World} (h : Below a.heap.size a w) : Chg [] a w := (Chg.refl [] a).of_below h
/-- a row whose block has a property -/
def RoP (w : World) (P : Nat → Prop) (a : Option Addr) (vs : List Value) : Prop := vs = [] ∨ ∃ b off, a = some ⟨b, off, none⟩ ∧ b < w.heap.size ∧ P b ∧ ∀ i, i < vs.length → w.cell? ⟨b, off + i, none⟩ = some (vs.getD i undef)
theorem RoP.ro {w : World} {P : Nat → Prop} {a : Option Addr} {vs : List Value} (h : RoP w P a vs) : Ro w w.heap.size a vs := by
  rcases h with h | ⟨b, off, h1, h2, h3, h4⟩
  · exact .inl h
  · exact .inr ⟨b, off, h1, h2, h4⟩
theorem RoP.chg {w w' : World} {P : Nat → Prop} {l : List Nat} {a : Option Addr} {vs : List Value} (h : RoP w P a vs) (hc : Chg l w w') (hl : ∀ x, P x → x ∉ l) : RoP w' P a vs := by
  rcases h with h | ⟨b, off, h1, h2, h3, h4⟩
  · exact .inl h
  · exact .inr ⟨b, off, h1, Nat.lt_of_lt_of_le h2 hc.size, h3, fun i hi => hc.cell (h4 i hi) (hl b h3)⟩
theorem RoP.mono {w : World} {P P' : Nat → Prop} {a : Option Addr} {vs : List Value} (h : RoP w P a vs) (hp : ∀ x, x < w.heap.size → P x → P' x) : RoP w P' a vs := by
  rcases h with h | ⟨b, off, h1, h2, h3, h4⟩
  · exact .inl h
  · exact .inr ⟨b, off, h1, h2, hp b h2 h3, h4⟩
theorem Ro.roP {w : World} {B : Nat} {a : Option Addr} {vs : List Value} (h : Ro w B a vs) (hB : B ≤ w.heap.size) : RoP w (fun x => x < B) a vs := by
  rcases h with h | ⟨b, off, h1, h2, h3⟩
  · exact .inl h
  · exact .inr ⟨b, off, h1, by omega, h2, h3⟩
theorem Lst.roP {w : World} {base : Nat} {e : TypeId} {a : Option Addr} {n c : Nat} {xs : List Value} (h : Lst w base e (.slice a n c) xs) : RoP w (fun x => base ≤ x) a xs := by
  obtain ⟨a', c', h1, h2, _⟩ := h.form
  injection h1 with h1 _ _
  subst h1
  rcases h2 with h2 | ⟨b, off, g1, g2, g3⟩
  · exact .inl h2
  · refine .inr ⟨b, off, g1, g2, ?_, g3⟩
    have := h.row b (by rw [g1]; simp [rowOf, Value.ownBlock])
    exact this.1
theorem Sl.roP {w : World} {base : Nat} {a : Option Addr} {n c : Nat} {L : List SgT} (h : Sl w base (.slice a n c) L) : RoP w (fun x => base ≤ x) a (sgv L) := by
  obtain ⟨a', c', h1, h2, _⟩ := h.form
  injection h1 with h1 _ _
  subst h1
  rcases h2 with h2 | ⟨b, off, g1, g2, g3⟩
  · exact .inl h2
  · refine .inr ⟨b, off, g1, g2, ?_, g3⟩
    have := h.row b (by rw [g1]; simp [rowOf, Value.ownBlock])
    exact this.1
/-- a layout whose blocks have a property -/
def LyP (w : World) (P : Nat → Prop) (A : LyT) : Prop := RoP w P A.a (sgv A.sg) ∧ ∀ s ∈ A.sg, RoP w P s.a (chv s.ch) ∧ ∀ c ∈ s.ch, RoP w P c.a (i64s c.u)
theorem LyP.inn {w : World} {P : Nat → Prop} {A : LyT} (h : LyP w P A) : LyIn w w.heap.size A := ⟨h.1.ro, fun s hs => ⟨(h.2 s hs).1.ro, fun c hc => ((h.2 s hs).2 c hc).ro⟩⟩
theorem LyP.chg {w w' : World} {P : Nat → Prop} {l : List Nat} {A : LyT} (h : LyP w P A) (hc : Chg l w w') (hl : ∀ x, P x → x ∉ l) : LyP w' P A := ⟨h.1.chg hc hl, fun s hs => ⟨(h.2 s hs).1.chg hc hl, fun c hm => ((h.2 s hs).2 c hm).chg hc hl⟩⟩
theorem LyP.mono {w : World} {P P' : Nat → Prop} {A : LyT} (h : LyP w P A) (hp : ∀ x, x < w.heap.size → P x → P' x) : LyP w P' A := ⟨h.1.mono hp, fun s hs => ⟨(h.2 s hs).1.mono hp, fun c hm => ((h.2 s hs).2 c hm).mono hp⟩⟩
theorem LyIn.lyP {w : World} {B : Nat} {A : LyT} (h : LyIn w B A) (hB : B ≤ w.heap.size) : LyP w (fun x => x < B) A := ⟨h.1.roP hB, fun s hs => ⟨(h.2 s hs).1.roP hB, fun c hm => ((h.2 s hs).2 c hm).roP hB⟩⟩
/-- of no segments, or small -/
def LyS (A : LyT) : Prop := (A.sg = [] ∧ A.a = none ∧ A.c = 0) ∨ LySm A
theorem sgx_app (A B : List SgT) : sgx (A ++ B) = sgx A ++ sgx B := by simp [sgx]
theorem chx_app (A B : List ChT) : chx (A ++ B) = chx A ++ chx B := by simp [chx]
theorem st_at {A B : List SgT} {x : SgT} {k : Nat} (h : A.length = k) : st (A ++ x :: B) k = x := by
  subst h
  simp [st, List.getD]
theorem drop_st {L : List SgT} {k : Nat} (h : k < L.length) : L.drop k = st L k :: L.drop (k + 1) := by
  rw [List.drop_eq_getElem_cons h]
  congr 1
  simp [st, List.getD, h]
theorem drop_ct {L : List ChT} {k : Nat} (h : k < L.length) : L.drop k = ct L k :: L.drop (k + 1) := by
  rw [List.drop_eq_getElem_cons h]
  congr 1
  simp [ct, List.getD, h]
theorem Sl.at_ {w : World} {base g n c : Nat} {L : List SgT} (h : Sl w base (.slice (some ⟨g, 0, none⟩) n c) L) (i : Nat) (hi : i < L.length) : w.cell? ⟨g, i * 2, none⟩ = some (.int .u64 ((st L i).f : Int)) ∧ w.cell? ⟨g, i * 2 + 1, none⟩ = some (.slice (st L i).a (st L i).ch.length (st L i).c) := by
  obtain ⟨a', c', h1, h2, _⟩ := h.form
  injection h1 with h1 _ _
  subst h1
  obtain ⟨b, off, g1, _, g3⟩ := h2.sg (by omega)
  injection g1 with g1
  injection g1 with g1 g2 _
  subst g1 g2
  have := g3 i hi
  simpa using this
theorem Lst.at_ {w : World} {base g n c : Nat} {e : TypeId} {L : List Value} (h : Lst w base e (.slice (some ⟨g, 0, none⟩) n c) L) (i : Nat) (hi : i < L.length) : w.cell? ⟨g, i, none⟩ = some (L.getD i undef) := by
  obtain ⟨a', c', h1, h2, _⟩ := h.form
  injection h1 with h1 _ _
  subst h1
  rcases h2 with h2 | ⟨b, off, g1, g2, g3⟩
  · rw [h2] at hi; simp at hi
  · injection g1 with g1
    injection g1 with g1 go _
    subst g1 go
    simpa using g3 i hi
theorem chv_set (A : List ChT) (x y : ChT) (B : List ChT) : (chv (A ++ x :: B)).set A.length y.val = chv (A ++ y :: B) := by
  unfold chv
  rw [List.map_append, List.map_append, List.set_append, if_neg (by simp)]
  simp
theorem Own.notLst {w : World} {g : Nat} {t e : TypeId} {cs xs : List Value} {base g' n c : Nat} (h : Own w g t cs) (hl : Lst w base e (.slice (some ⟨g', 0, none⟩) n c) xs) (hne : e ≠ t) : g ≠ g' := by
  intro he
  subst he
  obtain ⟨_, cur, h2⟩ := hl.row g (by simp [rowOf, Value.ownBlock])
  unfold Own at h
  rw [h] at h2
  injection h2 with h2
  injection h2 with _ h2 _
  exact hne h2.symm
theorem Own.notSl {w : World} {g : Nat} {t : TypeId} {cs : List Value} {L : List SgT} {base g' n c : Nat} (h : Own w g t cs) (hl : Sl w base (.slice (some ⟨g', 0, none⟩) n c) L) (hne : 80 ≠ t) : g ≠ g' := by
  intro he
  subst he
  obtain ⟨_, cur, h2⟩ := hl.row g (by simp [rowOf, Value.ownBlock])
  unfold Own at h
  rw [h] at h2
  injection h2 with h2
  injection h2 with _ h2 _
  exact hne h2.symm
set_option maxHeartbeats 4000000 in
theorem copyA_sm (A : LyT) (B : Nat) (w : World) (h : LyIn w B A) (hB : B ≤ w.heap.size) (hs : LySm A) :
    Calls Tryz.prog 56 #[A.val] w fun e w' => ∃ A' : LyT, e = .returned A'.val ∧ A'.x = A.x ∧ A'.sg.length = A.sg.length ∧ LyP w' (fun x => w.heap.size ≤ x) A' ∧ Chg [] w w' := by
  obtain ⟨ae, a, c, L, q⟩ := A
  obtain ⟨W, HW⟩ : ∃ W, Hid ((w.alloc (.cells #[.int .u64 (ae : Int), .slice a L.length c, .int .i64 q] 42)).alloc (.cells #[.int .u64 0, .slice none 0 0, .int .i64 0] 42) = W) := ⟨_, Lib.hid rfl⟩
  have hb : Below w.heap.size w W := by rw [← HW.out]; exact (((Chg.refl [] w).alloc _).alloc _).low
  have ho0 : Own W w.heap.size 42 [.int .u64 (ae : Int), .slice a L.length c, .int .i64 q] := by rw [← HW.out]; exact (Own.new w _ _).alloc _
  have ho1 : Own W (w.heap.size + 1) 42 [.int .u64 0, .slice none 0 0, .int .i64 0] := by
    rw [← HW.out]
    have := Own.new (w.alloc (.cells #[.int .u64 (ae : Int), .slice a L.length c, .int .i64 q] 42)) 42 [.int .u64 0, .slice none 0 0, .int .i64 0]
    simpa using this
  have hsz : W.heap.size = w.heap.size + 2 := by rw [← HW.out]; simp
  simp only [LyT.val, LyT.x] at *
  have HIN := Lib.hid h.2
  have HCS := Lib.hid (cloneS_any a c B L W (h.1.below hb hB) hs.n.1 (by have := hs.n.2; simp only at this; omega))
  have HSM := Lib.hid hs.s
  obtain ⟨n, HN⟩ : ∃ n, Hid (L.length = n) := ⟨_, Lib.hid rfl⟩
  have hn1 : (n : Int) ≤ 4 := by have := hs.n.2; have := HN.out; simp only at *; omega
  have HBW := Lib.hid hB
  rw [HN.out] at HCS HW ho0 ⊢
  have c1 := ho0.cell 1
  have f1 := ho0.frozen 1
  simp at c1
  have HO := Lib.hid (And.intro ho0 (And.intro ho1 hb))
  have HSZ := Lib.hid hsz
  clear h hB hs hb ho0 ho1 hsz
  go_enter Tryz.func56, Tryz.ntmps56
  go_upto_region 1 with fail
  rw [HW.out]
  go_wp2_with fail
  refine HCS.out.mono ?_
  rintro e w1 ⟨g, c', rfl, hl1, hb1⟩
  have d1 := cell_keep hb1 c1 (World.block_lt_of_cell? _ _ c1)
  have e1 : w1.frozen? ⟨w.heap.size, 1, none⟩ = false := (HO.out.1.below hb1 HO.out.1.lt).frozen 1
  have HL1 := Lib.hid hl1
  have HB1 := Lib.hid hb1
  have hb1s : w.heap.size ≤ W.heap.size := HO.out.2.2.size
  clear hl1 hb1 c1 f1
  have HO1 : Hid (Own (w1.setCell ⟨w.heap.size, 1, none⟩ (.slice (some ⟨g, 0, none⟩) n c')) w.heap.size 42 [.int .u64 (ae : Int), .slice (some ⟨g, 0, none⟩) n c', .int .i64 q]) := Lib.hid (by simpa using (HO.out.1.below HB1.out HO.out.1.lt).set 1 _)
  have HO2 : Hid (Own (w1.setCell ⟨w.heap.size, 1, none⟩ (.slice (some ⟨g, 0, none⟩) n c')) (w.heap.size + 1) 42 [.int .u64 0, .slice none 0 0, .int .i64 0]) := Lib.hid ((HO.out.2.1.below HB1.out HO.out.2.1.lt).far (by simp) _)
  have HG : Hid (w.heap.size ≤ g) := Lib.hid (Nat.le_trans hb1s (HL1.out.row g (by simp [rowOf, Value.ownBlock])).1)
  have HSL1 : Hid (Sl (w1.setCell ⟨w.heap.size, 1, none⟩ (.slice (some ⟨g, 0, none⟩) n c')) w.heap.size (.slice (some ⟨g, 0, none⟩) n c') L) := Lib.hid (by
    have h9 := (HL1.out.base hb1s).chgc ((Chg.refl [w.heap.size] w1).setCell (p := ⟨w.heap.size, 1, none⟩) (by simp) (.slice (some ⟨g, 0, none⟩) n c')) ((HO.out.1.below HB1.out HO.out.1.lt).notT' (by decide))
    exact h9)
  have HB2 : Hid (Below w.heap.size w (w1.setCell ⟨w.heap.size, 1, none⟩ (.slice (some ⟨g, 0, none⟩) n c'))) := Lib.hid ((HO.out.2.2.trans (HB1.out.mono hb1s)).setCell (Nat.le_refl _) _)
  go_upto_region 2 with fail
  generalize w1.setCell ⟨w.heap.size, 1, none⟩ (.slice (some ⟨g, 0, none⟩) n c') = w3 at HO1 HO2 HSL1 HB2 ⊢
  have c3 := HO1.out.cell 1
  simp at c3
  go_wp2_with fail
  clear c3
  go_loopw [15] (fun i wr => ∃ (k : Nat) (Gs : List SgT), k ≤ n ∧ i = .int .i64 (k : Int) ∧ Hid (Gs.length = k ∧ sgx Gs = (sgx L).take k) ∧ Hid (Sl wr w.heap.size (.slice (some ⟨g, 0, none⟩) n c') (Gs ++ L.drop k)) ∧ Hid (GwS wr w.heap.size Gs) ∧ Hid (Own wr w.heap.size 42 [.int .u64 (ae : Int), .slice (some ⟨g, 0, none⟩) n c', .int .i64 q] ∧ Own wr (w.heap.size + 1) 42 [.int .u64 0, .slice none 0 0, .int .i64 0]) ∧ Hid (Below w.heap.size w wr)) (fun i _ => n - (Go.RowKit.intOf i).toNat)
  case atStart => exact ⟨0, [], Nat.zero_le _, rfl, Lib.hid ⟨rfl, by simp [sgx]⟩, by simpa using HSL1, Lib.hid (fun _ h => by cases h), Lib.hid ⟨HO1.out, HO2.out⟩, HB2⟩
  case round =>
    obtain ⟨k, Gs, hk, rfl, HK, HLk, HGk, HOk, HBk⟩ := hrel
    rename World => wr
    by_cases hlt : k < n
    · have hkL : k < L.length := by rw [HN.out]; exact hlt
      have hst : st (Gs ++ L.drop k) k = st L k := by rw [drop_st hkL]; exact st_at HK.out.1
      have hat := HLk.out.at_ k (by rw [List.length_append, List.length_drop, HK.out.1, HN.out]; omega)
      rw [hst] at hat
      obtain ⟨q0, q1⟩ := hat
      have HRT := Lib.hid ((HIN.out (st L k) (st_mem hkL)).1.below HBk.out HBW.out)
      have HCT := Lib.hid ((HIN.out (st L k) (st_mem hkL)).2.below HBk.out HBW.out)
      have HSk := Lib.hid (HSM.out k hkL)
      have HDR := Lib.hid (drop_st hkL)
      have HXK : Hid ((sgx L).take (k + 1) = (sgx L).take k ++ [(st L k).x]) := Lib.hid (by
        have hk9 : k < (sgx L).length := by simpa using hkL
        rw [List.take_succ_eq_append_getElem hk9]
        congr 2
        simp [sgx, st, List.getD, hkL])
      have hk0 : (0 : Int) ≤ (k : Int) := by omega
      have hk1 : (k : Int) < (n : Int) := by omega
      have h0 := HOk.out.1.cell 1
      simp at h0
      clear hst hkL
      generalize st L k = S0 at *
      obtain ⟨sf, sa, sc, sch⟩ := S0
      simp only at q0 q1 HRT HCT HSk
      obtain ⟨m, HM⟩ : ∃ m, Hid (sch.length = m) := ⟨_, Lib.hid rfl⟩
      have hm1 : (m : Int) ≤ 4 := by have := HSk.out.1.2; have := HM.out; omega
      rw [HM.out] at q1
      have HCC : Hid (∀ W, Below wr.heap.size wr W → Calls Tryz.prog 102 #[.slice sa m sc] W fun e w' => ∃ g c', e = .returned (.slice (some ⟨g, 0, none⟩) m c') ∧ Lst w' W.heap.size 77 (.slice (some ⟨g, 0, none⟩) m c') (chv sch) ∧ Below W.heap.size W w') := Lib.hid (fun W hW => by
        have h9 := cloneC_any sa sc B sch W (HRT.out.below hW (Nat.le_trans HBW.out HBk.out.size)) HSk.out.1.1 (by have := HSk.out.1.2; omega)
        rw [HM.out] at h9
        exact h9)
      have HCI : Hid (∀ W, Below wr.heap.size wr W → ∀ T ∈ sch, Calls Tryz.prog 103 #[.slice T.a T.u.length T.c] W fun e w' => ∃ v, e = .returned v ∧ Lst w' W.heap.size 3 v (i64s T.u) ∧ Below W.heap.size W w') := Lib.hid (fun W hW T hT =>
        clone_int T.a T.c B T.u W ((HCT.out T hT).below hW (Nat.le_trans HBW.out HBk.out.size)) (HSk.out.2 T hT).1 (by have := (HSk.out.2 T hT).2; omega))
      have HA := Lib.hid ((Chg.refl [] wr).alloc (.cells #[.int .u64 (sf : Int), .slice sa m sc] 80)).low
      go_wp2_with fail
      refine (HCC.out _ HA.out).mono ?_
      rintro e w4 ⟨g2, c2, rfl, hl4, hb4⟩
      have hz4 : wr.heap.size ≤ (wr.alloc (.cells #[.int .u64 (sf : Int), .slice sa m sc] 80)).heap.size := HA.out.size
      have HL4 := Lib.hid (hl4.base hz4)
      have HB4 : Hid (Below wr.heap.size wr w4) := Lib.hid (HA.out.trans (hb4.mono hz4))
      clear hl4 hb4 hz4 q0 q1
      go_wp2_with fail
      rename World => w4
      go_loopw [25] (fun i wq => ∃ (j : Nat) (Ts : List ChT), j ≤ m ∧ i = .int .i64 (j : Int) ∧ Hid (Ts.length = j ∧ chx Ts = (chx sch).take j) ∧ Hid (Lst wq wr.heap.size 77 (.slice (some ⟨g2, 0, none⟩) m c2) (chv (Ts ++ sch.drop j))) ∧ Hid (GwC wq wr.heap.size Ts) ∧ Hid (Below wr.heap.size wr wq)) (fun i _ => m - (Go.RowKit.intOf i).toNat)
      case atStart => exact ⟨0, [], Nat.zero_le _, rfl, Lib.hid ⟨rfl, by simp [chx]⟩, by simpa using HL4, Lib.hid (fun _ h => by cases h), HB4⟩
      case round =>
        obtain ⟨j, Ts, hj, rfl, HJ, HLj, HGj, HBj⟩ := hrel
        rename World => wq
        by_cases hlt2 : j < m
        · have hjL : j < sch.length := by rw [HM.out]; exact hlt2
          have hlen : (chv (Ts ++ sch.drop j)).length = m := by rw [chv_length, List.length_append, List.length_drop, HJ.out.1, HM.out]; omega
          have e1 := HLj.out.at_ j (by omega)
          have ek : (chv (Ts ++ sch.drop j)).getD j undef = (ct sch j).val := by
            unfold chv
            rw [drop_ct hjL, List.map_append, List.map_cons]
            simp [List.getD, List.getElem?_append_right, HJ.out.1]
          rw [ek] at e1
          have HC := Lib.hid (HCI.out wq HBj.out (ct sch j) (ct_mem hjL))
          have HDC := Lib.hid (drop_ct hjL)
          have HXJ : Hid ((chx sch).take (j + 1) = (chx sch).take j ++ [(ct sch j).u]) := Lib.hid (by rw [cx_take (by simpa using hjL), cx_chx])
          have HLEN := Lib.hid hlen
          have hj0 : (0 : Int) ≤ (j : Int) := by omega
          have hj1 : (j : Int) < (m : Int) := by omega
          clear ek hlen hjL
          generalize ct sch j = T0 at *
          obtain ⟨ta, tc, tu⟩ := T0
          simp only [ChT.val] at e1 HC
          generalize tu.length = tn at e1 HC
          go_wp2_with fail
          refine HC.out.mono ?_
          rintro e w5 ⟨v5, rfl, hl5, hb5⟩
          obtain ⟨a5, c5, hv5, _, _⟩ := hl5.form
          rw [i64s_length] at hv5
          have HV5 : Hid (v5 = ChT.val ⟨a5, c5, tu⟩) := Lib.hid hv5
          have HL5 : Hid (Lst w5 wr.heap.size 3 (ChT.val ⟨a5, c5, tu⟩) (i64s tu)) := Lib.hid (by rw [← HV5.out]; exact hl5.base HBj.out.size)
          have HB5 : Hid (Below wr.heap.size wr w5) := Lib.hid (HBj.out.trans (hb5.mono HBj.out.size))
          have HLj5 : Hid (Lst w5 wr.heap.size 77 (.slice (some ⟨g2, 0, none⟩) m c2) (chv (Ts ++ sch.drop j))) := Lib.hid (HLj.out.below hb5 (Nat.le_refl _))
          have HGj5 : Hid (GwC w5 wr.heap.size Ts) := Lib.hid (fun T hT => (HGj.out T hT).below hb5 (Nat.le_refl _))
          have f5 := HLj5.out.frozen j
          have hy := cell_keep hb5 e1 (World.block_lt_of_cell? _ _ e1)
          have hz5 := World.block_lt_of_cell? _ _ hy
          simp only at hz5
          clear hl5 hb5 e1
          subst hv5
          go_wp2_with fail
          go_roundw
          case rel =>
            refine ⟨j + 1, Ts ++ [⟨a5, c5, tu⟩], by omega, by go_num, Lib.hid ⟨by rw [List.length_append, HJ.out.1]; rfl, ?_⟩, Lib.hid ?_, Lib.hid ?_, Lib.hid (HB5.out.setCell ?_ _)⟩
            · rw [HXJ.out, ← HJ.out.2]; simp [chx]
            · have h9 := HLj5.out.set j (by rw [HLEN.out]; exact hlt2) (ChT.val ⟨a5, c5, tu⟩)
              rw [HDC.out, ← HJ.out.1, chv_set] at h9
              rw [HJ.out.1] at h9
              simpa [ChT.val] using h9
            · intro T hT
              have h1 : Lst w5 wr.heap.size 3 T.val (i64s T.u) := by
                rcases List.mem_append.1 hT with h | h
                · exact HGj5.out T h
                · simp only [List.mem_singleton] at h
                  subst h
                  exact HL5.out
              refine h1.chgc ((Chg.refl [g2] w5).setCell (by simp) _) (fun x hx cur he => ?_)
              simp only [List.mem_singleton] at hx
              subst hx
              obtain ⟨_, cur', h2⟩ := HLj5.out.row x (by simp [rowOf, Value.ownBlock])
              rw [he] at h2
              injection h2 with h2
              injection h2 with _ h2 _
              exact absurd h2 (by decide)
            · exact (HLj5.out.row g2 (by simp [rowOf, Value.ownBlock])).1
          case measure => simp [Go.RowKit.intOf]; omega
        · obtain rfl : j = m := by omega
          have HLj6 : Hid (Lst wq wr.heap.size 77 (.slice (some ⟨g2, 0, none⟩) j c2) (chv Ts)) := Lib.hid (by
            have h9 := HLj.out
            rwa [List.drop_of_length_le (by rw [HM.out]; exact Nat.le_refl _), List.append_nil] at h9)
          have HTL : Hid (Ts.length = j ∧ chx Ts = chx sch) := Lib.hid ⟨HJ.out.1, by rw [HJ.out.2, List.take_of_length_le (by rw [chx_length, HM.out]; exact Nat.le_refl _)]⟩
          have HOq : Hid (Own wq w.heap.size 42 [.int .u64 (ae : Int), .slice (some ⟨g, 0, none⟩) n c', .int .i64 q] ∧ Own wq (w.heap.size + 1) 42 [.int .u64 0, .slice none 0 0, .int .i64 0]) := Lib.hid ⟨HOk.out.1.below HBj.out HOk.out.1.lt, HOk.out.2.below HBj.out HOk.out.2.lt⟩
          have HLq : Hid (Sl wq w.heap.size (.slice (some ⟨g, 0, none⟩) n c') (Gs ++ L.drop k)) := Lib.hid (HLk.out.below HBj.out)
          have HGq : Hid (GwS wq w.heap.size Gs) := Lib.hid (fun T hT => ⟨(HGk.out T hT).1.below HBj.out (Nat.le_refl _), fun c hc => ((HGk.out T hT).2 c hc).below HBj.out (Nat.le_refl _)⟩)
          have c0 := HOq.out.1.cell 1
          simp at c0
          have hlk : (Gs ++ L.drop k).length = n := by rw [List.length_append, List.length_drop, HK.out.1, HN.out]; omega
          obtain ⟨c1, c2'⟩ := HLq.out.at_ k (by omega)
          have z2 := HLq.out.frozen (k * 2 + 1)
          have HLK := Lib.hid hlk
          clear hlk
          go_wp2_with fail
          go_roundw
          case rel =>
            have hT : Hid (Own wq g 80 (wq.heap[g]?.elim [] (fun o => match o with | .cells c _ _ => c.toList | _ => []))) := Lib.hid (by
              obtain ⟨_, cur, h2⟩ := HLq.out.row g (by simp [rowOf, Value.ownBlock])
              unfold Own
              rw [h2]
              simp)
            refine ⟨k + 1, Gs ++ [⟨sf, some ⟨g2, 0, none⟩, c2, Ts⟩], by omega, by go_num, Lib.hid ⟨by rw [List.length_append, HK.out.1]; rfl, ?_⟩, Lib.hid ?_, Lib.hid ?_, Lib.hid ⟨?_, ?_⟩, Lib.hid ((HBk.out.trans (HBj.out.mono HBk.out.size)).setCell ?_ _)⟩
            · rw [HXK.out, ← HK.out.2, sgx_app]
              congr 1
              simp only [sgx, List.map_cons, List.map_nil, SgT.x, HTL.out.2]
            · have h8 := HLq.out
              rw [HDR.out] at h8
              have h9 := h8.set (L' := Gs ++ ⟨sf, some ⟨g2, 0, none⟩, c2, Ts⟩ :: L.drop (k + 1)) (k * 2 + 1) (by rw [List.length_append, HK.out.1, List.length_cons]; omega) (.slice (some ⟨g2, 0, none⟩) Ts.length c2) (by simp) (by rw [← HK.out.1]; exact sgv_set Gs ⟨sf, sa, sc, sch⟩ ⟨sf, some ⟨g2, 0, none⟩, c2, Ts⟩ _ rfl)
              rw [HTL.out.1] at h9
              simpa using h9
            · have hk1 : GwS wq w.heap.size (Gs ++ [⟨sf, some ⟨g2, 0, none⟩, c2, Ts⟩]) := fun T hT => by
                rcases List.mem_append.1 hT with h | h
                · exact HGq.out T h
                · simp only [List.mem_singleton] at h
                  subst h
                  refine ⟨?_, fun c hc => (HGj.out c hc).base HBk.out.size⟩
                  show Lst wq w.heap.size _ (.slice (some ⟨g2, 0, none⟩) Ts.length c2) _
                  rw [HTL.out.1]
                  exact HLj6.out.base HBk.out.size
              exact hk1.chgc ((Chg.refl [g] wq).setCell (by simp) _) (hT.out.notT' (by decide)) (hT.out.notT' (by decide))
            · exact HOq.out.1.far (HOq.out.1.notSl HLq.out (by decide)) _
            · exact HOq.out.2.far (HOq.out.2.notSl HLq.out (by decide)) _
            · exact HG.out
          case measure => simp [Go.RowKit.intOf]; omega
    · obtain rfl : k = n := by omega
      have hLk := HLk.out
      rw [List.drop_of_length_le (by rw [HN.out]; exact Nat.le_refl _), List.append_nil] at hLk
      have HLk2 := Lib.hid hLk
      have HX2 : Hid (Gs.length = k ∧ sgx Gs = sgx L) := Lib.hid ⟨HK.out.1, by rw [HK.out.2, List.take_of_length_le (by rw [sgx_length, HN.out]; exact Nat.le_refl _)]⟩
      have c0 := HOk.out.1.cell 0
      have c1 := HOk.out.1.cell 1
      have c2 := HOk.out.1.cell 2
      have d0 := HOk.out.2.cell 0
      have d1 := HOk.out.2.cell 1
      have d2 := HOk.out.2.cell 2
      have f0 := HOk.out.2.frozen 0
      have f1 := HOk.out.2.frozen 1
      have f2 := HOk.out.2.frozen 2
      simp at c0 c1 c2 d0 d1 d2
      have HR : Hid (Own (((wr.setCell ⟨w.heap.size + 1, 0, none⟩ (.int .u64 (ae : Int))).setCell ⟨w.heap.size + 1, 1, none⟩ (.slice (some ⟨g, 0, none⟩) k c')).setCell ⟨w.heap.size + 1, 2, none⟩ (.int .i64 q)) (w.heap.size + 1) 42 [.int .u64 (ae : Int), .slice (some ⟨g, 0, none⟩) k c', .int .i64 q]) := Lib.hid (by
        have h9 := ((HOk.out.2.set 0 (.int .u64 (ae : Int))).set 1 (.slice (some ⟨g, 0, none⟩) k c')).set 2 (.int .i64 q)
        simpa using h9)
      have HCH : Hid (Chg [w.heap.size + 1] wr (((wr.setCell ⟨w.heap.size + 1, 0, none⟩ (.int .u64 (ae : Int))).setCell ⟨w.heap.size + 1, 1, none⟩ (.slice (some ⟨g, 0, none⟩) k c')).setCell ⟨w.heap.size + 1, 2, none⟩ (.int .i64 q))) := Lib.hid ((((Chg.refl _ wr).setCell (by simp) _).setCell (by simp) _).setCell (by simp) _)
      clear hLk
      go_wp2_with fail
      generalize ((wr.setCell ⟨w.heap.size + 1, 0, none⟩ (.int .u64 (ae : Int))).setCell ⟨w.heap.size + 1, 1, none⟩ (.slice (some ⟨g, 0, none⟩) k c')).setCell ⟨w.heap.size + 1, 2, none⟩ (.int .i64 q) = wz at *
      refine bodyPost_ret (results_cell_row Tryz.results56 _ _ (w.heap.size + 1) 42 _ (0, 0) _ rfl HR.out Tryz.underlying42 rfl (by kernel_rfl)) rfl ?_
      have hSl := HLk2.out.chgc HCH.out (HOk.out.2.notT' (by decide))
      have hGw := HGk.out.chgc HCH.out (HOk.out.2.notT' (by decide)) (HOk.out.2.notT' (by decide))
      refine ⟨⟨ae, some ⟨g, 0, none⟩, c', Gs, q⟩, ?_, ?_, ?_, ⟨hSl.roP, fun s hs => ⟨(hGw s hs).1.roP, fun c hc => Lst.roP (n := c.u.length) (c := c.c) ((hGw s hs).2 c hc)⟩⟩, ?_⟩
      · simp only [LyT.val, HX2.out.1]
      · simp only [LyT.x, HX2.out.2]
      · simp only [HX2.out.1]
      · exact low_chg (HBk.out.trans (HCH.out.below HBk.out.size (fun x hx => by simp only [List.mem_singleton] at hx; subst hx; exact Nat.le_succ _)))
end Go.Proofs.YtihbinphmlgjoaaGreat
namespace Go.Proofs.YtihbinphmlgjoaaGreat
open Go.RowKit
set_option linter.unusedVariables false
set_option linter.unusedSimpArgs false

abbrev Rec := List UInt8
/-- n in k bytes, the highest one first -/
def be (k n : Nat) : List UInt8 := (List.range k).map fun j => UInt8.ofNat (n / 256 ^ (k - 1 - j))
/-- the number that bytes make -/
def nb (bs : List UInt8) : Nat := bs.foldl (fun a x => a * 256 + x.toNat) 0
@[simp] theorem be_len (k n : Nat) : (be k n).length = k := by simp [be]
theorem be_succ (k n : Nat) : be (k + 1) n = be k (n / 256) ++ [UInt8.ofNat n] := by
  unfold be
  rw [List.range_succ, List.map_append]
  congr 1
  · refine List.map_congr_left fun j hj => ?_
    have hj := List.mem_range.1 hj
    rw [Nat.div_div_eq_div_mul, show k + 1 - 1 - j = (k - 1 - j) + 1 from by omega, Nat.pow_succ, Nat.mul_comm]
  · simp
theorem be_zero (n : Nat) : be 0 n = [] := rfl
theorem nb_nil : nb [] = 0 := rfl
theorem nb_snoc (bs : List UInt8) (x : UInt8) : nb (bs ++ [x]) = nb bs * 256 + x.toNat := by simp [nb]
theorem nb_be : ∀ (k n : Nat), n < 256 ^ k → nb (be k n) = n
  | 0, n, h => by simp at h; subst h; rfl
  | k + 1, n, h => by
    rw [be_succ, nb_snoc, nb_be k (n / 256) (by rw [Nat.pow_succ] at h; omega)]
    have : (UInt8.ofNat n).toNat = n % 256 := by simp
    omega
theorem list_snoc {α : Type} {l : List α} (h : l ≠ []) : ∃ a x, l = a ++ [x] := ⟨l.dropLast, l.getLast h, (List.dropLast_concat_getLast h).symm⟩
theorem be_nb : ∀ (k : Nat) (bs : List UInt8), bs.length = k → be k (nb bs) = bs
  | 0, bs, h => by rw [List.eq_nil_of_length_eq_zero h]; rfl
  | k + 1, bs, h => by
    obtain ⟨a, x, rfl⟩ := list_snoc (l := bs) (by rintro rfl; simp at h)
    have hx : x.toNat < 256 := x.toNat_lt
    rw [be_succ, nb_snoc, show (nb a * 256 + x.toNat) / 256 = nb a from by omega, be_nb k a (by simpa using h)]
    congr 2
    apply UInt8.toNat_inj.1
    simp
theorem nb_lt : ∀ (k : Nat) (bs : List UInt8), bs.length = k → nb bs < 256 ^ k
  | 0, bs, h => by rw [List.eq_nil_of_length_eq_zero h]; simp [nb]
  | k + 1, bs, h => by
    obtain ⟨a, x, rfl⟩ := list_snoc (l := bs) (by rintro rfl; simp at h)
    have hx : x.toNat < 256 := x.toNat_lt
    have := nb_lt k a (by simpa using h)
    rw [nb_snoc, Nat.pow_succ]
    omega
theorem be_inj {k a b : Nat} (ha : a < 256 ^ k) (hb : b < 256 ^ k) (h : be k a = be k b) : a = b := by rw [← nb_be k a ha, h, nb_be k b hb]
theorem nb_take_lt (bs : List UInt8) (i : Nat) (hi : i ≤ 4) (hl : i ≤ bs.length) : nb (bs.take i) < 4294967296 := by
  have := nb_lt i (bs.take i) (by rw [List.length_take]; omega)
  have h2 : (256 : Nat) ^ i ≤ 256 ^ 4 := Nat.pow_le_pow_right (by omega) hi
  have h3 : (256 : Nat) ^ 4 = 4294967296 := by decide
  omega

/-- a record's frame -/
def frame (r : Rec) : List UInt8 := be 2 r.length ++ r
/-- frames, one behind the other -/
def frs : List Rec → List UInt8
  | [] => []
  | r :: L => frame r ++ frs L
@[simp] theorem frame_len (r : Rec) : (frame r).length = 2 + r.length := by simp [frame]
theorem frs_append : ∀ A B, frs (A ++ B) = frs A ++ frs B
  | [], B => rfl
  | r :: A, B => by rw [List.cons_append, frs, frs_append A B, frs, List.append_assoc]
theorem frs_one (r : Rec) : frs [r] = frame r := by simp [frs]
theorem frs_snoc (L : List Rec) (r : Rec) : frs (L ++ [r]) = frs L ++ frame r := by rw [frs_append, frs_one]
theorem frs_snoc_len (L : List Rec) (r : Rec) : (frs (L ++ [r])).length = (frs L).length + 2 + r.length := by rw [frs_snoc, List.length_append, frame_len]; omega
def okR (r : Rec) : Prop := 1 ≤ r.length ∧ r.length ≤ 300
instance (r : Rec) : Decidable (okR r) := by unfold okR; infer_instance
def okL (L : List Rec) : Prop := ∀ r ∈ L, okR r
theorem okL_nil : okL [] := by intro r h; cases h
theorem okL.append {A B : List Rec} (ha : okL A) (hb : okL B) : okL (A ++ B) := fun r h => by
  rcases List.mem_append.1 h with h | h
  · exact ha r h
  · exact hb r h
theorem okL.snoc {A : List Rec} {r : Rec} (ha : okL A) (hr : okR r) : okL (A ++ [r]) := ha.append (by intro x h; simp at h; subst h; exact hr)
theorem frs_ge {L : List Rec} (h : okL L) : 3 * L.length ≤ (frs L).length := by
  induction L with
  | nil => simp [frs]
  | cons r L ih =>
    have h1 := h r (by simp)
    have h2 := ih (fun x hx => h x (by simp [hx]))
    unfold okR at h1
    simp only [frs, List.length_append, frame_len, List.length_cons]
    omega
theorem frame_inj {r s : Rec} {X Y : List UInt8} (hr : okR r) (hs : okR s) (h : frame r ++ X = frame s ++ Y) : r = s ∧ X = Y := by
  unfold frame at h
  unfold okR at hr hs
  rw [List.append_assoc, List.append_assoc] at h
  obtain ⟨h1, h2⟩ := List.append_inj h (by simp)
  have h3 : r.length = s.length := be_inj (k := 2) (by omega) (by omega) h1
  obtain ⟨h4, h5⟩ := List.append_inj h2 h3
  exact ⟨h4, h5⟩
theorem frame_ne (r : Rec) (X : List UInt8) : frame r ++ X ≠ [] := by
  intro h
  have := congrArg List.length h
  simp at this
/-- frames that begin alike -/
theorem frs_pre : ∀ {A L : List Rec} {X : List UInt8}, okL A → okL L → frs A ++ X = frs L → ∃ M, L = A ++ M ∧ X = frs M
  | [], L, X, _, _, h => ⟨L, rfl, by simpa [frs] using h⟩
  | r :: A, [], X, _, _, h => by
    simp only [frs, List.append_assoc] at h
    exact absurd h (frame_ne r _)
  | r :: A, s :: L, X, ha, hl, h => by
    simp only [frs, List.append_assoc] at h
    obtain ⟨rfl, h2⟩ := frame_inj (ha r (by simp)) (hl s (by simp)) h
    obtain ⟨M, rfl, hM⟩ := frs_pre (fun x hx => ha x (by simp [hx])) (fun x hx => hl x (by simp [hx])) h2
    exact ⟨M, rfl, hM⟩
theorem frs_inj {A L : List Rec} (ha : okL A) (hl : okL L) (h : frs A = frs L) : A = L := by
  obtain ⟨M, rfl, hM⟩ := frs_pre (X := []) ha hl (by simpa using h)
  cases M with
  | nil => simp
  | cons r M => simp only [frs] at hM; exact absurd hM.symm (frame_ne r _)
/-- bytes begin with a frame -/
def begs (bs : List UInt8) : Prop := ∃ r X, okR r ∧ bs = frame r ++ X
theorem frs_begs {A L : List Rec} {X : List UInt8} (ha : okL A) (hl : okL L) (h : frs A ++ X = frs L) (hX : X ≠ []) : begs X := by
  obtain ⟨M, rfl, hM⟩ := frs_pre ha hl h
  cases M with
  | nil => exact absurd (by simpa [frs] using hM) hX
  | cons r M => exact ⟨r, frs M, hl r (by simp), hM⟩
theorem begs_iff (bs : List UInt8) : begs bs ↔ 2 ≤ bs.length ∧ nb (bs.take 2) ≤ bs.length - 2 ∧ 1 ≤ nb (bs.take 2) ∧ nb (bs.take 2) ≤ 300 := by
  constructor
  · rintro ⟨r, X, hr, rfl⟩
    unfold okR at hr
    have e : (frame r ++ X).take 2 = be 2 r.length := by unfold frame; rw [List.append_assoc, List.take_append_of_le_length (by simp), List.take_of_length_le (by simp)]
    rw [e, nb_be 2 _ (by omega)]
    simp only [List.length_append, frame_len]
    omega
  · rintro ⟨h1, h2, h3, h4⟩
    have hl : ((bs.drop 2).take (nb (bs.take 2))).length = nb (bs.take 2) := by rw [List.length_take, List.length_drop]; omega
    refine ⟨(bs.drop 2).take (nb (bs.take 2)), (bs.drop 2).drop (nb (bs.take 2)), ?_, ?_⟩
    · unfold okR; rw [hl]; omega
    · unfold frame
      rw [hl, be_nb 2 _ (by rw [List.length_take]; omega), List.append_assoc, List.take_append_drop, List.take_append_drop]
theorem begs_len {bs : List UInt8} {r : Rec} {X : List UInt8} (hr : okR r) (h : bs = frame r ++ X) : nb (bs.take 2) = r.length := by
  subst h
  unfold okR at hr
  have e : (frame r ++ X).take 2 = be 2 r.length := by unfold frame; rw [List.append_assoc, List.take_append_of_le_length (by simp), List.take_of_length_le (by simp)]
  rw [e, nb_be 2 _ (by omega)]

/-- where each record ends -/
def ens (L : List Rec) : List Int := (List.range L.length).map fun i => (((frs (L.take (i + 1))).length : Nat) : Int)
@[simp] theorem ens_len (L : List Rec) : (ens L).length = L.length := by simp [ens]
theorem ens_snoc (L : List Rec) (r : Rec) : ens (L ++ [r]) = ens L ++ [(((frs (L ++ [r])).length : Nat) : Int)] := by
  unfold ens
  rw [List.length_append, List.length_singleton, List.range_succ, List.map_append]
  congr 1
  · refine List.map_congr_left fun i hi => ?_
    have hi := List.mem_range.1 hi
    rw [List.take_append_of_le_length (by omega)]
  · simp [List.take_of_length_le]
theorem ens_get (L : List Rec) (i : Nat) (hi : i < L.length) : (ens L).getD i 0 = (((frs (L.take (i + 1))).length : Nat) : Int) := by
  simp [ens, List.getD, hi]
theorem frs_take_le (L : List Rec) (i : Nat) : (frs (L.take i)).length ≤ (frs L).length := by
  have h := frs_append (L.take i) (L.drop i)
  rw [List.take_append_drop] at h
  rw [h, List.length_append]; omega
theorem take_snoc {α : Type} (L : List α) (i : Nat) (hi : i < L.length) : L.take (i + 1) = L.take i ++ [L[i]] := by rw [List.take_succ_eq_append_getElem hi]
/-- the record i in the frames -/
theorem frs_rec (L : List Rec) (i : Nat) (hi : i < L.length) : ((frs L).drop ((frs (L.take i)).length + 2)).take (L[i]).length = L[i] ∧ (frs (L.take (i + 1))).length = (frs (L.take i)).length + 2 + (L[i]).length := by
  have e : L = L.take i ++ [L[i]] ++ L.drop (i + 1) := by rw [← take_snoc L i hi, List.take_append_drop]
  constructor
  · have h : frs L = (frs (L.take i) ++ be 2 (L[i]).length) ++ (L[i] ++ frs (L.drop (i + 1))) := by
      conv => lhs; rw [e]
      rw [frs_append, frs_snoc]
      simp [frame, List.append_assoc]
    rw [h, List.drop_append_of_le_length (by simp), List.drop_of_length_le (by simp), List.nil_append, List.take_append_of_le_length (Nat.le_refl _), List.take_length]
  · rw [take_snoc L i hi, frs_snoc_len]

/-- a superblock -/
def supS (h r b : Nat) : Sec := fillS (UInt8.ofNat h :: (be 4 r ++ be 4 b))
theorem supS_len (h r b : Nat) : (supS h r b).length = 64 := fillS_len _
theorem fillS_take (bs : List UInt8) (k : Nat) (hk : k ≤ bs.length) (h64 : k ≤ 64) : (fillS bs).take k = bs.take k := by
  refine List.ext_getElem? fun i => ?_
  rw [List.getElem?_take, List.getElem?_take]
  by_cases hi : i < k
  · rw [if_pos hi, if_pos hi, fillS_get bs i (by omega)]
    simp [List.getD, show i < bs.length by omega]
  · rw [if_neg hi, if_neg hi]
theorem supS_parts {h r b : Nat} : (supS h r b).getD 0 0 = UInt8.ofNat h ∧ ((supS h r b).drop 1).take 4 = be 4 r ∧ ((supS h r b).drop 5).take 4 = be 4 b := by
  have hl : (UInt8.ofNat h :: (be 4 r ++ be 4 b)).length = 9 := by simp
  have ht : (supS h r b).take 9 = UInt8.ofNat h :: (be 4 r ++ be 4 b) := by
    unfold supS
    rw [fillS_take _ 9 (by omega) (by omega), List.take_of_length_le (by omega)]
  refine ⟨?_, ?_, ?_⟩
  · have h0 : (supS h r b)[0]? = some (UInt8.ofNat h) := by
      have := congrArg (fun l : List UInt8 => l[0]?) ht
      simpa [List.getElem?_take] using this
    simp [List.getD, h0]
  · have h1 : ((supS h r b).drop 1).take 4 = (((supS h r b).take 9).drop 1).take 4 := by rw [List.drop_take, List.take_take]; rfl
    rw [h1, ht, List.drop_succ_cons, List.drop_zero, List.take_append_of_le_length (by simp), List.take_of_length_le (by simp)]
  · have h1 : ((supS h r b).drop 5).take 4 = (((supS h r b).take 9).drop 5).take 4 := by rw [List.drop_take, List.take_take]; rfl
    rw [h1, ht, List.drop_succ_cons, List.drop_append_of_le_length (by simp), List.drop_of_length_le (by simp), List.nil_append, List.take_of_length_le (by simp)]
theorem supS_inj {h r b h2 r2 b2 : Nat} (e : supS h r b = supS h2 r2 b2) (hh : h < 256) (hh2 : h2 < 256) (hr : r < 4294967296) (hr2 : r2 < 4294967296) (hb : b < 4294967296) (hb2 : b2 < 4294967296) : h = h2 ∧ r = r2 ∧ b = b2 := by
  obtain ⟨a1, a2, a3⟩ := supS_parts (h := h) (r := r) (b := b)
  obtain ⟨c1, c2, c3⟩ := supS_parts (h := h2) (r := r2) (b := b2)
  rw [e, c1] at a1
  rw [e, c2] at a2
  rw [e, c3] at a3
  have h3 : (256 : Nat) ^ 4 = 4294967296 := by decide
  refine ⟨?_, (be_inj (by omega) (by omega) a2).symm, (be_inj (by omega) (by omega) a3).symm⟩
  have := congrArg UInt8.toNat a1
  simp at this
  omega

/-- sectors from one on, as bytes -/
def cat (R : Nat → Sec) (f : Nat) : Nat → List UInt8
  | 0 => []
  | n + 1 => cat R f n ++ R (f + n)
theorem cat_len {R : Nat → Sec} (hR : ∀ i, (R i).length = 64) (f : Nat) : ∀ n, (cat R f n).length = n * 64
  | 0 => rfl
  | n + 1 => by rw [cat, List.length_append, cat_len hR f n, hR]; omega
theorem cat_take {R : Nat → Sec} (hR : ∀ i, (R i).length = 64) (f : Nat) : ∀ n k, k ≤ n → (cat R f n).take (k * 64) = cat R f k
  | 0, k, h => by obtain rfl : k = 0 := by omega
                  rfl
  | n + 1, k, h => by
    by_cases hk : k ≤ n
    · rw [cat, List.take_append_of_le_length (by rw [cat_len hR]; omega), cat_take hR f n k hk]
    · obtain rfl : k = n + 1 := by omega
      rw [List.take_of_length_le (by rw [cat_len hR]; omega)]
theorem cat_take_any {R : Nat → Sec} (hR : ∀ i, (R i).length = 64) (f n m k : Nat) (h1 : k ≤ n * 64) (h2 : k ≤ m * 64) : (cat R f n).take k = (cat R f m).take k := by
  rcases Nat.le_total n m with h | h
  · rw [← cat_take hR f m n h, List.take_take, Nat.min_eq_left h1]
  · rw [← cat_take hR f n m h, List.take_take, Nat.min_eq_left h2]
theorem cat_congr {R S : Nat → Sec} (f : Nat) : ∀ n, (∀ i, i < n → R (f + i) = S (f + i)) → cat R f n = cat S f n
  | 0, _ => rfl
  | n + 1, h => by rw [cat, cat, cat_congr f n (fun i hi => h i (by omega)), h n (by omega)]
/-- the sectors that hold bytes hold them -/
theorem cat_fill {R : Nat → Sec} (f : Nat) (B : List UInt8) : ∀ n, (∀ i, i < n → R (f + i) = fillS (B.drop (i * 64))) → (∀ i, (R i).length = 64) → (cat R f n).take B.length = B.take (n * 64)
  | 0, _, _ => by simp [cat]
  | n + 1, h, hR => by
    have ih := cat_fill f B n (fun i hi => h i (by omega)) hR
    have hl := cat_len hR f n
    rw [cat, List.take_append, ih, hl, h n (by omega), show (n + 1) * 64 = n * 64 + 64 from by omega, List.take_add]
    congr 1
    rcases Nat.lt_or_ge (B.length) (n * 64) with hb | hb
    · rw [show B.length - n * 64 = 0 from by omega, List.take_zero, List.drop_of_length_le (by omega), List.take_nil]
    · refine List.ext_getElem? fun i => ?_
      rw [List.getElem?_take, List.getElem?_take]
      by_cases hi : i < B.length - n * 64
      · rw [if_pos hi]
        by_cases h6 : i < 64
        · rw [if_pos h6, fillS_get _ i h6]
          simp [List.getD, show n * 64 + i < B.length by omega]
        · rw [if_neg h6, List.getElem?_eq_none (by rw [fillS_len]; omega)]
      · rw [if_neg hi]
        by_cases h6 : i < 64
        · rw [if_pos h6, List.getElem?_eq_none (by rw [List.length_drop]; omega)]
        · rw [if_neg h6]

/-- how many sectors a half has -/
def hsec (n : Nat) : Nat := (n - 1) / 2
/-- what a half has, as bytes -/
def halfB (n : Nat) (R : Nat → Sec) (h : Nat) : List UInt8 := cat R (1 + h * hsec n) (hsec n)
/-- a tape's records on a disk -/
structure Opens (n : Nat) (R : Nat → Sec) (h : Nat) (L : List Rec) : Prop where
  half : h ≤ 1
  ok : okL L
  room : (frs L).length ≤ hsec n * 64
  sup : R 0 = supS h L.length (frs L).length
  bytes : (halfB n R h).take (frs L).length = frs L
theorem Opens.uniq {n : Nat} {R : Nat → Sec} {h h2 : Nat} {L L2 : List Rec} (hn : n ≤ 1024) (a : Opens n R h L) (b : Opens n R h2 L2) : h = h2 ∧ L = L2 := by
  have h1 := a.half
  have h2 := b.half
  have h3 := frs_ge a.ok
  have h4 := frs_ge b.ok
  have h5 := a.room
  have h6 := b.room
  unfold hsec at h5 h6
  obtain ⟨e1, e2, e3⟩ := supS_inj (a.sup.symm.trans b.sup) (by omega) (by omega) (by omega) (by omega) (by omega) (by omega)
  subst e1
  refine ⟨rfl, frs_inj a.ok b.ok ?_⟩
  rw [← a.bytes, ← b.bytes, e3]
/-- what is written -/
def wrM (m : Nat → Option Sec) (f : Nat) (B : List UInt8) (i j : Nat) : Nat → Option Sec := fun x => if f + i ≤ x ∧ x < f + j then some (fillS (B.drop ((x - f) * 64))) else m x
theorem wrM_none (m : Nat → Option Sec) (f : Nat) (B : List UInt8) (i : Nat) : wrM m f B i i = m := by
  funext x
  unfold wrM
  rw [if_neg (by omega)]
theorem wrM_succ (m : Nat → Option Sec) (f : Nat) (B : List UInt8) (i j : Nat) (h : i ≤ j) : upd (wrM m f B i j) (f + j) (fillS (B.drop (j * 64))) = wrM m f B i (j + 1) := by
  funext x
  unfold upd wrM
  by_cases e : x = f + j
  · subst e
    rw [if_pos rfl, if_pos (by omega), Nat.add_sub_cancel_left]
  · rw [if_neg e]
    by_cases h2 : f + i ≤ x ∧ x < f + j
    · rw [if_pos h2, if_pos (by omega)]
    · rw [if_neg h2, if_neg (by omega)]
end Go.Proofs.YtihbinphmlgjoaaGreat
