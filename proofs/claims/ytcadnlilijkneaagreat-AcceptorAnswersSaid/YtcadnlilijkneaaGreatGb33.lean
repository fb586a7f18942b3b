/-
  An acceptor in memory: its struct, its tape, its states; an epoch's state in memory of its own. No claim of its own.
-/
import Derived.Test.YtcadnlilijkneaaGreatGb32
namespace Go.Proofs.YtcadnlilijkneaaGreat
open Go.RowKit Go.Maps Go.Shelf Go.Deep
set_option linter.unusedVariables false
set_option linter.unusedSimpArgs false

def StV (w : World) (P : Nat → Prop) (S : AS) (V : Nat → Option Value) : Prop := ∀ e, (S e = none ∧ V e = none) ∨ ∃ T : EsT, S e = some T.x ∧ V e = some T.val ∧ LyP w P T.y ∧ LyS T.y
theorem StV.chg {w w' : World} {P : Nat → Prop} {l : List Nat} {S : AS} {V : Nat → Option Value} (h : StV w P S V) (hc : Chg l w w') (hl : ∀ x, P x → x ∉ l) : StV w' P S V := fun e => by
  rcases h e with h1 | ⟨T, h1, h2, h3, h4⟩
  · exact .inl h1
  · exact .inr ⟨T, h1, h2, h3.chg hc hl, h4⟩
theorem StV.mono {w : World} {P P' : Nat → Prop} {S : AS} {V : Nat → Option Value} (h : StV w P S V) (hp : ∀ x, x < w.heap.size → P x → P' x) : StV w P' S V := fun e => by
  rcases h e with h1 | ⟨T, h1, h2, h3, h4⟩
  · exact .inl h1
  · exact .inr ⟨T, h1, h2, h3.mono hp, h4⟩
theorem StV.get {w : World} {P : Nat → Prop} {S : AS} {V : Nat → Option Value} (h : StV w P S V) (e : Nat) : ∃ T : EsT, S.at e = T.x ∧ (V e).getD zEs.val = T.val ∧ LyP w P T.y ∧ LyS T.y := by
  rcases h e with ⟨h1, h2⟩ | ⟨T, h1, h2, h3, h4⟩
  · exact ⟨zEs, by unfold AS.at; rw [h1]; rfl, by rw [h2]; rfl, LyP.nil _ _ rfl, .inl ⟨rfl, rfl, rfl⟩⟩
  · exact ⟨T, by unfold AS.at; rw [h1]; rfl, by rw [h2]; rfl, h3, h4⟩
theorem StV.isS {w : World} {P : Nat → Prop} {S : AS} {V : Nat → Option Value} (h : StV w P S V) (e : Nat) : (V e).isSome = (S e).isSome := by
  rcases h e with ⟨h1, h2⟩ | ⟨T, h1, h2, _⟩ <;> rw [h1, h2] <;> rfl
theorem StV.none (w : World) (P : Nat → Prop) : StV w P (fun _ => none) (fun _ => none) := fun e => .inl ⟨rfl, rfl⟩
theorem StV.exec {w : World} {P : Nat → Prop} {S : AS} {V : Nat → Option Value} (h : StV w P S V) (x : Rc) (T : EsT) (hT : T.x = behind (S.at x.e) x) (hl : LyP w P T.y) (hs : LyS T.y) : StV w P (exec S x) (updV V x.e T.val) := fun e => by
  unfold Proofs.YtcadnlilijkneaaGreat.exec updV
  by_cases he : e = x.e
  · rw [if_pos he, if_pos he]
    exact .inr ⟨T, by rw [hT], rfl, hl, hs⟩
  · rw [if_neg he, if_neg he]
    exact h e
def acM (u mp p g b : Nat) (l : List Nat) : List Nat := u :: mp :: p :: g :: b :: l
structure Acs (w : World) (B : Nat → Prop) (u mp q : Nat) (l : List Nat) (p g b n : Nat) (X : TS) (S : AS) : Prop where
  own : Own w u 154 [.pointer (some ⟨q, 0, none⟩), .map (some mp)]
  td : TD w l q p g b n X
  map : ∃ V, MapV w mp V ∧ StV w (fun x => B x ∧ x ∉ acM u mp p g b l) S V
  gd : Gd S
  um : u ≠ mp
  ul : u ∉ p :: g :: b :: l
  ml : mp ∉ p :: g :: b :: l
theorem Acs.kept {w w' : World} {B : Nat → Prop} {u mp q : Nat} {l : List Nat} {p g b n : Nat} {X : TS} {S : AS} (A : Acs w B u mp q l p g b n X S) (hc : Chg [] w w') : Acs w' B u mp q l p g b n X S := by
  obtain ⟨V, h1, h2⟩ := A.map
  exact ⟨A.own.chg hc (by simp), A.td.kept hc, ⟨V, h1.kept hc, h2.chg hc (by simp)⟩, A.gd, A.um, A.ul, A.ml⟩
theorem Acs.chg {w w' : World} {B : Nat → Prop} {u mp q : Nat} {l m : List Nat} {p g b n : Nat} {X : TS} {S : AS} (A : Acs w B u mp q l p g b n X S) (hc : Chg m w w') (hm : ∀ x ∈ m, x ∉ acM u mp p g b l) (hp : ∀ x, B x ∧ x ∉ acM u mp p g b l → x ∉ m) : Acs w' B u mp q l p g b n X S := by
  obtain ⟨V, h1, h2⟩ := A.map
  have hx : ∀ x ∈ m, x ≠ u ∧ x ≠ mp ∧ x ≠ p ∧ x ≠ g ∧ x ≠ b ∧ x ∉ l := fun x hx => by have := hm x hx; simpa [acM] using this
  exact ⟨A.own.chg hc (fun h => (hx u h).1 rfl), A.td.chg hc (fun x h => ⟨(hx x h).2.2.2.2.2, (hx x h).2.2.1, (hx x h).2.2.2.1, (hx x h).2.2.2.2.1⟩), ⟨V, h1.chg hc (fun h => (hx mp h).2.1 rfl), h2.chg hc hp⟩, A.gd, A.um, A.ul, A.ml⟩
theorem Own.two {w : World} {u : Nat} {t : TypeId} {a b : Value} (h : Own w u t [a, b]) : w.cell? ⟨u, 0, none⟩ = some a ∧ w.cell? ⟨u, 1, none⟩ = some b := by
  refine ⟨?_, ?_⟩ <;> rw [h.cell] <;> rfl
theorem results_row_tmp {P : Program} {fn : Func} {p u : Tmp} {ty : TypeId} (h : fn.results = #[.cell p ty, .tmp u]) (tmps : Array Value) (w : World) (g : Nat) (t : TypeId) (cs : Array Value) (fr : Nat × Nat) (d : TypeDesc)
    (hp : tmps.getD p undef = .pointer (some ⟨g, 0, none⟩)) (hg : w.heap[g]? = some (.cells cs t fr))
    (hu : P.underlying ty = some d) (hd : (match d with | .struct _ | .array _ _ => true | _ => false) = true) (hi : (P.info? ty).map (·.size) = some cs.size) :
    (results fn tmps).run P w = .ok (.tuple #[.agg cs, tmps.getD u undef]) w := by
  have hp' : tmps[p]?.getD undef = .pointer (some ⟨g, 0, none⟩) := by simpa using hp
  simp [results, h, hp', asAddr, run_loadVar_row w g t ty cs fr d hg hu hd hi]
theorem LyP.tape {w w' : World} {u mp p g b : Nat} {l l' : List Nat} {y : LyT} (h : LyP w (fun x => x ∉ acM u mp p g b l) y) (hc : Chg (l ++ [g, b]) w w') (hl : ∀ x ∈ l', x ∈ l ∨ w.heap.size ≤ x) : LyP w' (fun x => x ∉ acM u mp p g b l') y := by
  refine (h.mono (P' := fun x => x ∉ acM u mp p g b l ∧ x < w.heap.size) (fun x hx hp => ⟨hp, hx⟩)).chg hc (fun x hx => ?_) |>.mono (fun x _ hx => ?_)
  · have := hx.1
    unfold acM at this
    simp only [List.mem_cons, not_or] at this
    simp [this]
  · have h7 := hx.1
    unfold acM at h7 ⊢
    simp only [List.mem_cons, not_or] at h7 ⊢
    refine ⟨h7.1, h7.2.1, h7.2.2.1, h7.2.2.2.1, h7.2.2.2.2.1, fun h2 => ?_⟩
    rcases hl x h2 with h3 | h3
    · exact h7.2.2.2.2.2 h3
    · have := hx.2; omega
theorem Acs.tape {w w' : World} {B : Nat → Prop} {u mp q : Nat} {l l' : List Nat} {p g b n : Nat} {X X' : TS} {S : AS} (A : Acs w B u mp q l p g b n X S) (hc : Chg (l ++ [g, b]) w w') (ht : TD w' l' q p g b n X') (hl : ∀ x ∈ l', x ∈ l ∨ w.heap.size ≤ x) : Acs w' B u mp q l' p g b n X' S := by
  obtain ⟨V, h1, h2⟩ := A.map
  have hu := A.own.lt
  have hm := h1.lt
  have hmem : ∀ x, x < w.heap.size → x ∉ l → x ∉ l' := fun x hx h1 h2 => by
    rcases hl x h2 with h3 | h3
    · exact h1 h3
    · omega
  have hul := A.ul
  have hml := A.ml
  simp only [List.mem_cons, not_or] at hul hml
  refine ⟨A.own.chg hc (by simp [hul]), ht, ⟨V, h1.chg hc (by simp [hml]), ?_⟩, A.gd, A.um, ?_, ?_⟩
  · intro e
    rcases h2 e with h3 | ⟨T, h3, h4, h5, h6⟩
    · exact .inl h3
    · refine .inr ⟨T, h3, h4, (h5.mono (P' := fun x => (B x ∧ x ∉ acM u mp p g b l) ∧ x < w.heap.size) (fun x hx hp => ⟨hp, hx⟩)).chg hc (fun x hx => ?_) |>.mono (fun x _ hx => ?_), h6⟩
      · have := hx.1.2
        unfold acM at this
        simp only [List.mem_cons, not_or] at this
        simp [this]
      · have h7 := hx.1.2
        refine ⟨hx.1.1, ?_⟩
        unfold acM at h7 ⊢
        simp only [List.mem_cons, not_or] at h7 ⊢
        exact ⟨h7.1, h7.2.1, h7.2.2.1, h7.2.2.2.1, h7.2.2.2.2.1, hmem x hx.2 h7.2.2.2.2.2⟩
  · simp only [List.mem_cons, not_or]
    exact ⟨hul.1, hul.2.1, hul.2.2.1, hmem u hu hul.2.2.2⟩
  · simp only [List.mem_cons, not_or]
    exact ⟨hml.1, hml.2.1, hml.2.2.1, hmem mp hm hml.2.2.2⟩
set_option maxHeartbeats 1000000 in
theorem state_any (w : World) {u mp : Nat} {qv : Value} {V : Nat → Option Value} (ho : Own w u 154 [qv, .map (some mp)]) (hV : MapV w mp V) (e : Nat) (he : e < 18446744073709551616) (T : EsT) (P : Nat → Prop) (hT : (V e).getD zEs.val = T.val) (hl : LyP w P T.y) (hs : LyS T.y) :
    Calls Tryz.prog 96 #[.pointer (some ⟨u, 0, none⟩), .int .u64 (e : Int)] w fun r w' => ∃ T' : EsT, r = .returned T'.val ∧ T'.x = T.x ∧ LyP w' (fun x => w.heap.size ≤ x) T'.y ∧ LyS T'.y ∧ Chg [] w w' := by
  obtain ⟨W, HW⟩ : ∃ W, Hid (w.alloc (.cells #[.int .i64 0, .int .i64 0, .int .i64 0, .int .i64 0, .int .u64 0, .slice none 0 0, .int .i64 0] 116) = W) := ⟨_, Lib.hid rfl⟩
  have hc : Chg [] w W := by rw [← HW.out]; exact (Chg.refl [] w).alloc _
  have hsz : W.heap.size = w.heap.size + 1 := by rw [← HW.out]; simp
  have hr : Own W w.heap.size 116 [.int .i64 0, .int .i64 0, .int .i64 0, .int .i64 0, .int .u64 0, .slice none 0 0, .int .i64 0] := by rw [← HW.out]; exact Own.new w _ _
  have HLK := (hV.kept hc).look1 (t := 152) (e := 116) Tryz.underlying152 (z := zEs.val) (by kernel_rfl) he
  rw [hT] at HLK
  obtain ⟨_, c1⟩ := (ho.chg hc (by simp)).two
  have HC := Lib.hid hc
  have HR := Lib.hid hr
  have HSZ := Lib.hid hsz
  have HL := Lib.hid hl
  have HS := Lib.hid hs
  obtain ⟨⟨p1, p2⟩, ⟨a1, a2⟩, y⟩ := T
  unfold EsT.val at HLK
  simp only at HLK HL HS
  have HCP : Hid (∀ W', Chg [] w W' → Calls Tryz.prog 59 #[y.val] W' fun e w' => ∃ A' : LyT, e = .returned A'.val ∧ A'.x = y.x ∧ LyP w' (fun x => W'.heap.size ≤ x) A' ∧ LyS A' ∧ Chg [] W' w') := Lib.hid (fun W' h => copyA_any y P W' (HL.out.chg h (by simp)) HS.out)
  unfold LyT.val at HCP
  obtain ⟨yn, hyn⟩ : ∃ n, Hid (y.sg.length = n) := ⟨_, Lib.hid rfl⟩
  rw [hyn.out] at HLK HCP
  clear ho hV hT hl hs hc hsz hr he
  go_enter Tryz.func96, Tryz.ntmps96
  go_upto_region 1 with fail
  rw [HW.out]
  go_upto_region 2 with fail
  have hb0 := Own.new W 116 [.int .i64 p1, .int .i64 p2, .int .i64 a1, .int .i64 a2, .int .u64 (y.e : Int), .slice y.a yn y.c, .int .i64 y.q]
  have hbc := (Chg.refl [] W).alloc (.cells #[.int .i64 p1, .int .i64 p2, .int .i64 a1, .int .i64 a2, .int .u64 (y.e : Int), .slice y.a yn y.c, .int .i64 y.q] 116)
  generalize W.alloc (.cells #[.int .i64 p1, .int .i64 p2, .int .i64 a1, .int .i64 a2, .int .u64 (y.e : Int), .slice y.a yn y.c, .int .i64 y.q] 116) = Wb at hb0 hbc ⊢
  obtain ⟨z, hz⟩ : ∃ z, Hid (W.heap.size = z) := ⟨_, Lib.hid rfl⟩
  rw [hz.out] at hb0 ⊢
  have s0 := hb0.cell 0
  have s1 := hb0.cell 1
  have s2 := hb0.cell 2
  have s3 := hb0.cell 3
  have s4 := hb0.cell 4
  have s5 := hb0.cell 5
  have s6 := hb0.cell 6
  simp at s0 s1 s2 s3 s4 s5 s6
  have HB := Lib.hid (And.intro hb0 hbc)
  have HCW := Lib.hid (HC.out.trans hbc)
  clear hb0 hbc c1 HLK
  go_wp2_with fail
  refine (HCP.out _ HCW.out).mono ?_
  rintro r w3 ⟨⟨e', a', c', sg', q'⟩, rfl, hx3, hl3, hs3, hc3⟩
  obtain ⟨n', hn'⟩ : ∃ n, Hid (sg'.length = n) := ⟨_, Lib.hid rfl⟩
  simp only [hn'.out]
  have HX3 := Lib.hid (And.intro hx3 (And.intro hl3 hs3))
  have HC3 := Lib.hid hc3
  have hb3 := HB.out.1.chg hc3 (by simp)
  have HB3 := Lib.hid hb3
  have HR3 := Lib.hid ((HR.out.chg HB.out.2 (by simp)).chg hc3 (by simp))
  clear s0 s1 s2 s3 s4 s5 s6
  have s0 := hb3.cell 0
  have s1 := hb3.cell 1
  have s2 := hb3.cell 2
  have s3 := hb3.cell 3
  have s4 := hb3.cell 4
  have s5 := hb3.cell 5
  have s6 := hb3.cell 6
  have f0 := hb3.frozen 0
  have f1 := hb3.frozen 1
  have f2 := hb3.frozen 2
  have f3 := hb3.frozen 3
  have f4 := hb3.frozen 4
  have f5 := hb3.frozen 5
  have f6 := hb3.frozen 6
  simp at s0 s1 s2 s3 s4 s5 s6
  clear hx3 hl3 hs3 hc3 hb3
  go_upto_region 3 with fail
  have hb4 : Own (((w3.setCell ⟨z, 4, none⟩ (.int .u64 (e' : Int))).setCell ⟨z, 5, none⟩ (.slice a' n' c')).setCell ⟨z, 6, none⟩ (.int .i64 q')) z 116 [.int .i64 p1, .int .i64 p2, .int .i64 a1, .int .i64 a2, .int .u64 (e' : Int), .slice a' n' c', .int .i64 q'] := by
    have h9 := ((HB3.out.set 4 (.int .u64 (e' : Int))).set 5 (.slice a' n' c')).set 6 (.int .i64 q')
    simpa using h9
  have hc4 : Chg [z] w3 (((w3.setCell ⟨z, 4, none⟩ (.int .u64 (e' : Int))).setCell ⟨z, 5, none⟩ (.slice a' n' c')).setCell ⟨z, 6, none⟩ (.int .i64 q')) := (((Chg.refl [z] w3).setCell (by simp) _).setCell (by simp) _).setCell (by simp) _
  clear s0 s1 s2 s3 s4 s5 s6 f0 f1 f2 f3 f4 f5 f6
  generalize ((w3.setCell ⟨z, 4, none⟩ (.int .u64 (e' : Int))).setCell ⟨z, 5, none⟩ (.slice a' n' c')).setCell ⟨z, 6, none⟩ (.int .i64 q') = w4 at hb4 hc4 ⊢
  have hr4 := HR3.out.chg hc4 (by have := HSZ.out; have := hz.out; simp; omega)
  have s0 := hb4.cell 0
  have s1 := hb4.cell 1
  have s2 := hb4.cell 2
  have s3 := hb4.cell 3
  have s4 := hb4.cell 4
  have s5 := hb4.cell 5
  have s6 := hb4.cell 6
  have d0 := hr4.cell 0
  have d1 := hr4.cell 1
  have d2 := hr4.cell 2
  have d3 := hr4.cell 3
  have d4 := hr4.cell 4
  have d5 := hr4.cell 5
  have d6 := hr4.cell 6
  have f0 := hr4.frozen 0
  have f1 := hr4.frozen 1
  have f2 := hr4.frozen 2
  have f3 := hr4.frozen 3
  have f4 := hr4.frozen 4
  have f5 := hr4.frozen 5
  have f6 := hr4.frozen 6
  simp at s0 s1 s2 s3 s4 s5 s6 d0 d1 d2 d3 d4 d5 d6
  have G := Lib.hid (And.intro hr4 hc4)
  clear hb4 hr4 hc4
  go_wp2_with fail
  have H9 := Lib.hid (Own.put7 G.out.1 (.int .i64 p1) (.int .i64 p2) (.int .i64 a1) (.int .i64 a2) (.int .u64 (e' : Int)) (.slice a' n' c') (.int .i64 q'))
  refine bodyPost_ret (results_cell_row Tryz.results96 _ _ w.heap.size 116 _ (0, 0) _ rfl H9.out Tryz.underlying116 rfl (by kernel_rfl)) rfl ?_
  have h5 := (Chg.refl [w.heap.size] w4).put7 (g := w.heap.size) (by simp) (.int .i64 p1) (.int .i64 p2) (.int .i64 a1) (.int .i64 a2) (.int .u64 (e' : Int)) (.slice a' n' c') (.int .i64 q')
  have h6 : Chg [z, w.heap.size] w3 _ := (G.out.2.mono (fun x hx => .inl (by simp at hx; simp [hx]))).trans (h5.mono (fun x hx => .inl (by simp at hx; simp [hx])))
  have hsz3 : z < Wb.heap.size := HB.out.1.lt
  have hwz : w.heap.size < z := by have := HSZ.out; have := hz.out; omega
  refine ⟨⟨(p1, p2), (a1, a2), ⟨e', a', c', sg', q'⟩⟩, ?_, ?_, ?_, HX3.out.2.2, ?_⟩
  · simp only [EsT.val, hn'.out]
  · simp only [EsT.x, HX3.out.1]
  · exact (HX3.out.2.1.chg h6 (fun x hx hm => by simp only [List.mem_cons, List.not_mem_nil, or_false] at hm; omega)).mono (fun x _ hx => by have := HCW.out.size; omega)
  · exact (HCW.out.trans HC3.out).then h6 (fun x hx => .inr (by simp only [List.mem_cons, List.not_mem_nil, or_false] at hx; omega))
end Go.Proofs.YtcadnlilijkneaaGreat
