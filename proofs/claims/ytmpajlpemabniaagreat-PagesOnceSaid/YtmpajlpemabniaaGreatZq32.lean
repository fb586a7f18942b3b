/-
  A state of pages in memory; newState, isTrimmed, isWritten. No claim of their own.
-/
import Derived.Test.YtmpajlpemabniaaGreatZq31
import Derived.Test.YtmpajlpemabniaaGreatZq9
import Derived.Lib.SlMapFilter
namespace Go.Proofs.YtmpajlpemabniaaGreat
open Go.RowKit Go.Maps Go.Shelf Go.Deep
set_option linter.unusedVariables false
set_option linter.unusedSimpArgs false
def CelV (w : World) (C : List Nat) (m : Nat → Option Ce) (V : Nat → Option Value) : Prop :=
  ∀ a, (m a = none ∧ V a = none) ∨ ∃ A : CeT, m a = some A.x ∧ V a = some A.val ∧ CellV w C A
structure Sta (w : World) (q p : Nat) (v : Value) (b : Nat) (C : List Nat) (S : PS) : Prop where
  own : Own w q 138 [.int .u64 (S.ep : Int), .int .u64 (S.op : Int), .int .u64 (S.mr : Int), .pointer (some ⟨p, 0, none⟩), .map (some b)]
  set : St w p v S.T
  map : ∃ V, MapV w b V ∧ CelV w C S.m V
  gd : Gd S
  ap : ∀ x ∈ C, x < w.heap.size ∧ x ∉ q :: p :: b :: rowOf v
theorem CelV.chg {l : List Nat} {w w' : World} {C : List Nat} {m : Nat → Option Ce} {V : Nat → Option Value} (h : CelV w C m V) (hc : Chg l w w') (hl : ∀ x ∈ C, x ∉ l) : CelV w' C m V := fun a => by
  rcases h a with h1 | ⟨A, h1, h2, h3⟩
  · exact .inl h1
  · exact .inr ⟨A, h1, h2, h3.chg hc hl⟩
theorem CelV.isS {w : World} {C : List Nat} {m : Nat → Option Ce} {V : Nat → Option Value} (h : CelV w C m V) {a : Nat} : (V a).isSome = (m a).isSome := by
  rcases h a with ⟨h1, h2⟩ | ⟨A, h1, h2, h3⟩ <;> rw [h1, h2] <;> rfl
theorem CelV.vals {w : World} {C : List Nat} {m : Nat → Option Ce} {V : Nat → Option Value} (h : CelV w C m V) : ∀ a v, V a = Option.some v → ∃ A : CeT, v = A.val := fun a v hv => by
  rcases h a with ⟨h1, h2⟩ | ⟨A, h1, h2, h3⟩
  · rw [h2] at hv; cases hv
  · rw [h2] at hv; cases hv; exact ⟨A, rfl⟩
theorem Sta.chg {l : List Nat} {w w' : World} {q p : Nat} {v : Value} {b : Nat} {C : List Nat} {S : PS} (h : Sta w q p v b C S) (hc : Chg l w w') (hl : ∀ x ∈ q :: p :: b :: rowOf v, x ∉ l) (hC : ∀ x ∈ C, x ∉ l) : Sta w' q p v b C S := by
  obtain ⟨V, hV, hV2⟩ := h.map
  exact ⟨h.own.chg hc (hl q (by simp)), h.set.chg hc (hl p (by simp)) (fun g hg => hl g (by simp [mem_rowOf, hg])), ⟨V, hV.chg hc (hl b (by simp)), hV2.chg hc hC⟩, h.gd, fun x hx => ⟨Nat.lt_of_lt_of_le (h.ap x hx).1 hc.size, (h.ap x hx).2⟩⟩
theorem Sta.kept {w w' : World} {q p : Nat} {v : Value} {b : Nat} {C : List Nat} {S : PS} (h : Sta w q p v b C S) (hc : Chg [] w w') : Sta w' q p v b C S := h.chg hc (by simp) (by simp)
theorem Sta.qp {w : World} {q p : Nat} {v : Value} {b : Nat} {C : List Nat} {S : PS} (h : Sta w q p v b C S) : q ≠ p := by
  intro e; have h1 := h.own; have h2 := h.set.own; subst e; unfold Own at h1 h2; rw [h1] at h2; simp at h2
theorem MapV.neOwn {w : World} {b : Nat} {V : Nat → Option Value} {g : Nat} {t : TypeId} {cs : List Value} (h : MapV w b V) (ho : Own w g t cs) : g ≠ b := by
  intro e; subst e
  obtain ⟨D, ⟨es, clock, h1, _⟩, _⟩ := h.own
  unfold Own at ho; rw [ho] at h1; simp at h1
theorem Sta.cells {w : World} {q p : Nat} {v : Value} {b : Nat} {C : List Nat} {S : PS} (h : Sta w q p v b C S) :
    w.cell? ⟨q, 0, none⟩ = some (.int .u64 (S.ep : Int)) ∧ w.cell? ⟨q, 1, none⟩ = some (.int .u64 (S.op : Int)) ∧ w.cell? ⟨q, 2, none⟩ = some (.int .u64 (S.mr : Int)) ∧ w.cell? ⟨q, 3, none⟩ = some (.pointer (some ⟨p, 0, none⟩)) ∧ w.cell? ⟨q, 4, none⟩ = some (.map (some b)) := by
  have := h.own
  refine ⟨?_, ?_, ?_, ?_, ?_⟩ <;> rw [this.cell] <;> rfl
theorem Sta.fit {w : World} {q p : Nat} {v : Value} {b : Nat} {C : List Nat} {S : PS} (h : Sta w q p v b C S) : ∀ r ∈ S.T, r.2 ≤ top64 := fun r hr => by have := h.gd.hi r hr; unfold top64; omega
theorem Sta.setV {w : World} {q p : Nat} {v : Value} {b : Nat} {C : List Nat} {S : PS} (h : Sta w q p v b C S) : SetV w (.pointer (some ⟨p, 0, none⟩)) (p :: rowOf v) S.T :=
  .inr ⟨p, v, rfl, h.set, by simp, fun g hg => by simp [mem_rowOf, hg]⟩
theorem St.rowlt {w : World} {p : Nat} {v : Value} {L : List Rn} (h : St w p v L) : ∀ k ∈ p :: rowOf v, k < w.heap.size := fun k hk => by
  rcases List.mem_cons.1 hk with rfl | hk
  · exact h.own.lt
  · exact (h.row.lt k (by simpa [mem_rowOf] using hk)).2
theorem newState_any (w : World) : Calls Tryz.prog 38 #[] w fun e w' => ∃ q p v b, e = .returned (.pointer (some ⟨q, 0, none⟩)) ∧ Sta w' q p v b [] PS.zero ∧ (∀ x ∈ q :: p :: b :: rowOf v, w.heap.size ≤ x) ∧ Chg [] w w' := by
  have hmm := @run_makeMap Tryz.prog
  go_enter Tryz.func38, Tryz.ntmps38
  go_wp2_with (go_at_call 82; refine (New_any _).mono ?_; rintro e w1 ⟨rfl, rfl⟩)
  go_ret
  obtain ⟨w1, HW1⟩ : ∃ W, w.alloc (.cells #[.slice none 0 0] 199) = W := ⟨_, rfl⟩
  have hN := new_st w
  have hC1 : Chg [] w w1 := by rw [← HW1]; exact (Chg.refl [] w).alloc _
  have hs1 : w1.heap.size = w.heap.size + 1 := by rw [← HW1]; simp
  rw [HW1] at hN ⊢
  have hm := MapV.made w1
  have hC2 : Chg [] w1 (w1.alloc (.map #[] 0)) := (Chg.refl [] w1).alloc _
  have hs2 : (w1.alloc (.map #[] 0)).heap.size = w.heap.size + 2 := by rw [World.size_alloc, hs1]
  have hC3 := fun o => (Chg.refl [] (w1.alloc (.map #[] 0))).alloc o
  refine ⟨w.heap.size + 2, w.heap.size, .slice none 0 0, w.heap.size + 1, ?_, ⟨?_, (hN.st.kept hC2).kept (hC3 _), ⟨fun _ => none, ?_, fun a => .inl ⟨rfl, rfl⟩⟩, Gd.zero, by simp⟩, by simp [rowOf, Value.ownBlock], (hC1.trans hC2).trans (hC3 _)⟩
  · rfl
  · have := Own.new (w1.alloc (.map #[] 0)) 138 [.int .u64 0, .int .u64 0, .int .u64 0, .pointer (some ⟨w.heap.size, 0, none⟩), .map (some (w.heap.size + 1))]
    rw [hs2] at this
    exact this
  · rw [hs1] at hm
    exact hm.kept (hC3 _)
theorem isTrimmed_any (w : World) {q p : Nat} {v : Value} {b : Nat} {C : List Nat} {S : PS} (h : Sta w q p v b C S) (a : Nat) (ha : a < 18446744073709551616) :
    Calls Tryz.prog 67 #[.pointer (some ⟨q, 0, none⟩), .int .u64 (a : Int)] w fun e w' => e = .returned (.bool (S.tr a)) ∧ Chg [] w w' := by
  obtain ⟨h0, h1, h2, h3, h4⟩ := h.cells
  have HH := Lib.hid (Has_any (some ⟨p, 0, none⟩) S.T a w (p :: rowOf v) h.setV h.set.rowlt ha h.gd.nf h.fit)
  clear h
  unfold PS.tr
  obtain ⟨mr, hmr⟩ : ∃ x, x = S.mr := ⟨_, rfl⟩
  rw [← hmr] at h2 ⊢
  clear hmr
  cases hd : decide (a < mr)
  · simp only [Bool.false_or]
    go_enter Tryz.func67, Tryz.ntmps67
    go_wp2_with (go_at_call 121; refine HH.out.mono ?_; rintro e w1 ⟨rfl, hb1⟩)
    go_ret
    exact ⟨rfl, low_chg hb1⟩
  · simp only [Bool.true_or]
    go_enter Tryz.func67, Tryz.ntmps67
    go_wp2_with fail
    go_ret
    exact ⟨rfl, Chg.refl [] w⟩
theorem isWritten_any (w : World) {q p : Nat} {v : Value} {b : Nat} {C : List Nat} {S : PS} (h : Sta w q p v b C S) (a : Nat) (ha : a < 18446744073709551616) :
    Calls Tryz.prog 68 #[.pointer (some ⟨q, 0, none⟩), .int .u64 (a : Int)] w fun e w' => e = .returned (.bool (S.m a).isSome) ∧ Chg [] w w' := by
  obtain ⟨h0, h1, h2, h3, h4⟩ := h.cells
  obtain ⟨V, hV, hV2⟩ := h.map
  have HL := hV.look (t := 136) (e := 42) Tryz.underlying136 (z := .agg #[.int .i64 0, .slice none 0 0, .slice none 0 0]) (by kernel_rfl) ha
  rw [hV2.isS] at HL
  obtain ⟨B, hB⟩ : ∃ x, x = (S.m a).isSome := ⟨_, rfl⟩
  rw [← hB] at HL ⊢
  clear hB
  obtain ⟨A, hA⟩ : ∃ A : CeT, (V a).getD (.agg #[.int .i64 0, .slice none 0 0, .slice none 0 0]) = A.val := by
    rcases hV2 a with ⟨e1, e2⟩ | ⟨A, e1, e2, _⟩
    · exact ⟨⟨⟨0, [], []⟩, none, 0, none, 0⟩, by rw [e2]; rfl⟩
    · exact ⟨A, by rw [e2]; rfl⟩
  rw [hA] at HL
  obtain ⟨⟨k, d, cb⟩, a1, c1, a2, c2⟩ := A
  unfold CeT.val at HL
  simp only at HL
  clear h hV hV2 hA
  go_enter Tryz.func68, Tryz.ntmps68
  go_wp2_with fail
  go_ret
  exact ⟨rfl, ((Chg.refl [] w).alloc _)⟩
def inS (f t a : Nat) : Bool := decide (f ≤ a) && decide (a < t)
def rmV (V : Nat → Option Value) (f t : Nat) : Nat → Option Value := fun x => if inS f t x = true then none else V x
def cutV (V : Nat → Option Value) (f t : Nat) (left : Lit → Bool) : Nat → Option Value := fun x => if inS f t x = true ∧ left (uk x) = false then none else V x
theorem MapD.congr {V V' : Nat → Option Value} {D : DataW Value} (h : MapD V D) (e : ∀ x, V' x = V x) : MapD V' D := by
  have : V' = V := funext e
  rw [this]; exact h
theorem MapD.start {V : Nat → Option Value} {D : DataW Value} (h : MapD V D) (f t : Nat) : MapD (cutV V f t (Go.Maps.has D)) D := h.congr fun x => by
  unfold cutV
  by_cases e : inS f t x = true ∧ Go.Maps.has D (uk x) = false
  · rw [if_pos e]
    have h2 := h.has x
    rw [e.2] at h2
    cases hV : V x with
    | none => rfl
    | some v => rw [hV] at h2; cases h2
  · rw [if_neg e]
theorem MapD.done {V : Nat → Option Value} {D : DataW Value} {f t : Nat} {left : Lit → Bool} (h : MapD (cutV V f t left) D) (hl : ∀ kl, left kl = false) : MapD (rmV V f t) D := h.congr fun x => by
  unfold cutV rmV
  simp [hl]
theorem ukne {x y : Nat} (h : x ≠ y) : (uk x).sameKey (uk y) = false := by
  have h2 : ¬ ((x : Int) = (y : Int)) := by omega
  simp [Lit.sameKey, h2]
theorem MapD.stays {V : Nat → Option Value} {D : DataW Value} {f t : Nat} {left : Lit → Bool} (h : MapD (cutV V f t left) D) {x : Nat} (hx : inS f t x = false) : MapD (cutV V f t (fun z => left z && !z.sameKey (uk x))) D := h.congr fun y => by
  unfold cutV
  by_cases e : y = x
  · subst e; simp [hx]
  · simp [ukne e]
theorem MapD.struck {V : Nat → Option Value} {D : DataW Value} {f t : Nat} {left : Lit → Bool} (h : MapD (cutV V f t left) D) {x : Nat} (hx : inS f t x = true) (hxm : x < 18446744073709551616) : MapD (cutV V f t (fun z => left z && !z.sameKey (uk x))) (D.del (uk x)) := by
  have hv : ∀ y, y ≠ x → cutV V f t (fun z => left z && !z.sameKey (uk x)) y = cutV V f t left y := fun y e => by
    unfold cutV
    simp [ukne e]
  have hvx : cutV V f t (fun z => left z && !z.sameKey (uk x)) x = none := by
    unfold cutV
    simp [hx, Lit.sameKey]
  have hne : ∀ j, j ≠ x → uk j ≠ uk x := fun j hj e => hj (uk_inj e)
  refine ⟨fun j u hj => ?_, fun j hj => ?_, fun kl hkl => ?_⟩
  · by_cases e : j = x
    · subst e; rw [hvx] at hj; cases hj
    · rw [hv j e] at hj
      obtain ⟨h1, h2⟩ := h.some_ j u hj
      exact ⟨by rw [has_del_other (hne j e)]; exact h1, fun z => by rw [atKey_del_other (hne j e)]; exact h2 z⟩
  · by_cases e : j = x
    · subst e; exact has_del_same
    · rw [hv j e] at hj
      rw [has_del_other (hne j e)]
      exact h.none_ j hj
  · by_cases e : kl = uk x
    · subst e; rw [has_del_same] at hkl; cases hkl
    · rw [has_del_other e] at hkl
      exact h.keys kl hkl
theorem rmV_some {V : Nat → Option Value} {f t a : Nat} {v : Value} (h : rmV V f t a = some v) : V a = some v := by
  unfold rmV at h
  by_cases e : inS f t a = true
  · rw [if_pos e] at h; cases h
  · rwa [if_neg e] at h
theorem rmcl_any (a f t bf bt : Nat) (A : CeT) (W : World) (hf : W.cell? ⟨bf, 0, none⟩ = some (.int .u64 (f : Int))) (ht : W.cell? ⟨bt, 0, none⟩ = some (.int .u64 (t : Int))) :
    Calls Tryz.prog 149 #[.int .u64 (a : Int), A.val, .pointer (some ⟨bf, 0, none⟩), .pointer (some ⟨bt, 0, none⟩)] W fun e w' => e = .returned (.bool (inS f t a)) ∧ W.grownBy w' none := by
  obtain ⟨⟨k, d, b⟩, a1, c1, a2, c2⟩ := A
  have hf2 : ∀ o, (W.alloc o).cell? ⟨bf, 0, none⟩ = some (.int .u64 (f : Int)) := fun o => ((Chg.refl [] W).alloc o).cell hf (by simp)
  have ht2 : ∀ o, (W.alloc o).cell? ⟨bt, 0, none⟩ = some (.int .u64 (t : Int)) := fun o => ((Chg.refl [] W).alloc o).cell ht (by simp)
  clear hf ht
  unfold CeT.val inS
  cases e1 : decide (f ≤ a)
  · simp only [Bool.false_and]
    go_enter Tryz.func149, Tryz.ntmps149
    go_wp2_with fail
    go_ret
    exact ⟨rfl, World.grownBy_alloc _ _ _⟩
  · simp only [Bool.true_and]
    go_enter Tryz.func149, Tryz.ntmps149
    go_wp2_with fail
    go_ret
    exact ⟨rfl, World.grownBy_alloc _ _ _⟩
set_option maxHeartbeats 4000000 in
set_option maxRecDepth 100000 in
theorem delf_any (f t bf bt b : Nat) (V : Nat → Option Value) (w : World) (hv : MapV w b V) (hV : ∀ a v, V a = some v → ∃ A : CeT, v = A.val)
    (hf : Own w bf 37 [.int .u64 (f : Int)]) (ht : Own w bt 37 [.int .u64 (t : Int)]) :
    Calls Tryz.prog 148 #[.map (some b), .func (.func 149) #[] #[.pointer (some ⟨bf, 0, none⟩), .pointer (some ⟨bt, 0, none⟩)]] w fun e w' => e = .returned (.tuple #[]) ∧ MapV w' b (rmV V f t) ∧ w.grownBy w' (some b) := by
  obtain ⟨D, hown, hD⟩ := hv.own
  have hdom := Lib.hid hv.dom
  have HV := Lib.hid hV
  have HD := Lib.hid hD
  have HO := Lib.hid (And.intro hf ht)
  have hbf : bf ≠ b := by
    intro e; subst e
    obtain ⟨es, clock, h1, _⟩ := hown
    unfold Own at hf; rw [hf] at h1; simp at h1
  have hbt : bt ≠ b := by
    intro e; subst e
    obtain ⟨es, clock, h1, _⟩ := hown
    unfold Own at ht; rw [ht] at h1; simp at h1
  have HN := Lib.hid (And.intro hbf hbt)
  clear hv hD hV hf ht hbf hbt
  go_enter Tryz.func148, Tryz.ntmps148
  go_wp2_with (first
    | (at_range; refine wpList_range_own _ rfl _ 136 rfl 37 42 ukeyed Tryz.underlying136 idR b 1048576 _ rfl hown ?_; intro w0 hrg0 hg0 hs0)
    | fail)
  go_frame
  go_loopw [8] (fun _ wr => ∃ (left : Lit → Bool) (cnt : Nat) (D' : DataW Value), wr.ranges Tryz.prog 37 idR b w.heap.size 1048576 D' left cnt ∧ Hid (MapD (cutV V f t left) D') ∧ w.grownBy wr (some b))
    (fun _ wr => wr.rangeLeft b w.heap.size)
  case atStart => exact ⟨_, _, D, hrg0, Lib.hid (HD.out.start f t), hg0.but _⟩
  case round =>
    obtain ⟨left, cnt, D', hrg, hM, hgw⟩ := hrel
    go_wp2_with (first
      | (at_next; refine wpList_next_ranges _ rfl _ rfl 37 ukeyed idR (fun x : Nat => Value.int .u64 (x : Int)) id (fun key kl hk => by obtain ⟨x, _, hx, _⟩ := keyOf_u64 hk; exact ⟨x, hx⟩) (fun v _ _ => ⟨v, rfl⟩) b w.heap.size 1048576 _ _ _ rfl hrg ?_ ?_)
      | fail)
    · intro _ hl0
      go_wp2
      go_end0
      refine ⟨rfl, tightM hrg.owns (hM.out.done hl0) (fun a v h => hdom.out a v (rmV_some h)), hgw⟩
    · intro x c kl yd yp w1 cnt1 hkey hlx hv hat hrg1 hlt hg1 hs1 hen
      obtain ⟨x', hx', ex, rfl⟩ := keyOf_u64 hkey
      obtain rfl : x = x' := by simp at ex; omega
      have hgw1 := hgw.andThen hg1 (fun j hj => by cases hj; exact Or.inl (Nat.le_refl _))
      obtain ⟨v, hcv⟩ : ∃ v, cutV V f t left x = some v := by
        have h1 := hM.out.has x
        rw [has_true_of_atKey hat] at h1
        exact Option.isSome_iff_exists.1 h1.symm
      have hVx : V x = some v := by
        unfold cutV at hcv
        by_cases e : inS f t x = true ∧ left (uk x) = false
        · rw [if_pos e] at hcv; cases hcv
        · rwa [if_neg e] at hcv
      obtain ⟨A, hA⟩ := HV.out x v hVx
      have h2 := idR_inv hv
      have h3 := (hM.out.some_ x v hcv).2 (.held v)
      rw [hat] at h3
      simp only [Prod.mk.injEq] at h2
      obtain ⟨h2, rfl⟩ := h2
      rw [h2] at h3
      obtain rfl : c = v := by simpa using h3
      subst hA
      have hq1 := (HO.out.1.grown hgw1 (by simpa using HN.out.1)).cell 0
      have hq2 := (HO.out.2.grown hgw1 (by simpa using HN.out.2)).cell 0
      have HF1 := Lib.hid (HO.out.1.grown hgw1 (by simpa using HN.out.1))
      have HF2 := Lib.hid (HO.out.2.grown hgw1 (by simpa using HN.out.2))
      have HC := Lib.hid (fun W (h1 : Own W bf 37 [.int .u64 (f : Int)]) (h2 : Own W bt 37 [.int .u64 (t : Int)]) => rmcl_any x f t bf bt A W (by have := h1.cell 0; simpa using this) (by have := h2.cell 0; simpa using this))
      have HH := Lib.hid (And.intro hVx hcv)
      clear hVx hcv h2 h3 hq1 hq2 hv hat hs1
      obtain ⟨⟨k, d, cb⟩, a1, c1, a2, c2⟩ := A
      unfold CeT.val at *
      simp only at HC HH ⊢
      cases hp : inS f t x <;> simp only [hp] at HC
      · go_wp2_with (first
          | (go_at_call 149; refine (HC.out _ (HF1.out.alloc _) (HF2.out.alloc _)).mono ?_; rintro e w2 ⟨rfl, hg2⟩)
          | fail)
        have hg12 := (World.grownBy_alloc w1 (.cells #[.int .i64 k, .slice a1 d.length c1, .slice a2 cb.length c2] 42) none).andThen hg2 (fun j hj => by cases hj)
        have hrg2 := hrg1.kept hg12 (by simp) (by simp)
        go_roundw
        case rel => exact ⟨_, cnt1, D', hrg2, Lib.hid (hM.out.stays hp), hgw1.andThen hg12 (fun j hj => by cases hj)⟩
        case measure => rw [hrg2.left_eq, hrg.left_eq]; exact hlt
      · go_wp2_with (first
          | (go_at_call 149; refine (HC.out _ (HF1.out.alloc _) (HF2.out.alloc _)).mono ?_; rintro e w2 ⟨rfl, hg2⟩; have hg12 := (World.grownBy_alloc w1 (.cells #[.int .i64 k, .slice a1 d.length c1, .slice a2 cb.length c2] 42) none).andThen hg2 (fun j hj => by cases hj); have hrg2 := hrg1.kept hg12 (by simp) (by simp))
          | (at_delete; refine wpList_delete_ranges _ rfl _ _ 136 37 rfl 42 ukeyed Tryz.underlying136 idR b w.heap.size 1048576 _ _ _ rfl hrg2 _ _ rfl hkey ?_; intro w3 cnt3 hrg3 hle hturn; go_frame)
          | fail)
        rw [strike_twice] at hrg3
        go_roundw
        case rel => exact ⟨_, cnt3, _, hrg3, Lib.hid (hM.out.struck hp hx'), (hgw1.andThen hg12 (fun j hj => by cases hj)).andThen hturn.grown (fun j hj => by cases hj; exact Or.inr rfl)⟩
        case measure => rw [hrg3.left_eq, hrg.left_eq]; omega
end Go.Proofs.YtmpajlpemabniaaGreat
namespace Go.Proofs.YtmpajlpemabniaaGreat
open Go.RowKit Go.Maps Go.Shelf Go.Deep Go.Sort
set_option linter.unusedVariables false
set_option linter.unusedSimpArgs false
theorem keysOf_any (w : World) (b : Nat) : Calls Tryz.prog 129 #[.map (some b)] w fun e w' => e = .returned (.func (.func 192) #[] #[.pointer (some ⟨w.heap.size, 0, none⟩)]) ∧ w' = w.alloc (.cells #[.map (some b)] 136) := by
  go_enter Tryz.func129, Tryz.ntmps129
  go_wp2_with fail
  go_ret
  exact ⟨rfl, rfl⟩
theorem collect_any (w : World) (Bm b : Nat) (V : Nat → Option Value) (hm : Own w Bm 136 [.map (some b)]) (hv : MapV w b V) :
    Calls Tryz.prog 190 #[.func (.func 192) #[] #[.pointer (some ⟨Bm, 0, none⟩)]] w fun e w' => ∃ (v : Value) (xs : List Nat), e = .returned v ∧ AllK V xs ∧ Lst w' w.heap.size 37 v (u64s xs) ∧ Chg [] w w' := by
  have HA := Lib.hid (appendSeq_any w Bm b V hm hv)
  clear hm hv
  go_enter Tryz.func190, Tryz.ntmps190
  go_wp2_with (go_at_call 228; refine HA.out.mono ?_; rintro e w1 ⟨v, xs, rfl, h1, h2, h3⟩)
  go_ret
  exact ⟨v, xs, rfl, h1, h2, h3⟩
theorem bl_new {w' : World} {base : Nat} {t : TypeId} {v : Value} {vs : List Value} (h : Lst w' base t v vs) : ∀ x ∈ bl v, base ≤ x := by
  intro x hx
  exact (h.lt _ (mem_bl.1 hx)).1
theorem sorted_any (w : World) (Bm b : Nat) (m : Nat → Option Ce) (V : Nat → Option Value) (hm : Own w Bm 136 [.map (some b)]) (hv : MapV w b V) (hs : ∀ a, (V a).isSome = (m a).isSome) :
    Calls Tryz.prog 128 #[.func (.func 192) #[] #[.pointer (some ⟨Bm, 0, none⟩)]] w fun e w' => ∃ v, e = .returned v ∧ Lst w' w.heap.size 37 v (u64s (addrs m)) ∧ Chg [] w w' := by
  have HA := Lib.hid (collect_any w Bm b V hm hv)
  have hd := hv.dom
  have HX := Lib.hid (And.intro hs hd)
  clear hm hv hs hd
  go_enter Tryz.func128, Tryz.ntmps128
  go_wp2_with (first
    | (go_at_call 190; refine HA.out.mono ?_; rintro e w1 ⟨v, xs, rfl, h1, h2, h3⟩; have HL1 := Lib.hid h1; have HL2 := Lib.hid h2; have HL3 := Lib.hid h3; clear h1 h2 h3
       have hmem : ∀ x, x ∈ xs ↔ x ∈ addrs m := fun x => by
         rw [HL1.out.2 x, mem_addrs, HX.out.1 x]
         refine ⟨fun h => ⟨?_, h⟩, fun h => h.2⟩
         rw [← HX.out.1 x] at h
         obtain ⟨u, hu⟩ := Option.isSome_iff_exists.1 h
         exact HX.out.2 x u hu
       have hp := Lib.hid ((List.perm_ext_iff_of_nodup HL1.out.1 (addrs_nodup m)).2 hmem)
       have HS := Lib.hid (sort_any w1 w.heap.size v xs HL2.out (by rw [hp.out.length_eq]; exact nodup_le (addrs_nodup m) (fun x hx => (mem_addrs.1 hx).1)))
       clear hmem)
    | (go_at_call 191; refine HS.out.mono ?_; rintro e w2 ⟨rfl, ys, h1, h2, h3, h4⟩; have HY := Lib.hid (And.intro h1 h2); have HZ := Lib.hid (And.intro h3 h4); clear h1 h2 h3 h4)
    | fail)
  go_ret
  have e1 : ys = addrs m := sorted_eq (HY.out.1.trans hp.out) HY.out.2 ((addrs_sorted m).imp (fun h => Nat.le_of_lt h))
  have hz := HZ.out
  rw [e1] at hz
  exact ⟨v, rfl, hz.1, HL3.out.then hz.2 (fun x hx => .inr (bl_new HL2.out x hx))⟩
theorem written_any (w : World) {q p : Nat} {v : Value} {b : Nat} {C : List Nat} {S : PS} (h : Sta w q p v b C S) :
    Calls Tryz.prog 74 #[.pointer (some ⟨q, 0, none⟩)] w fun e w' => ∃ v, e = .returned v ∧ Lst w' w.heap.size 37 v (u64s (addrs S.m)) ∧ Chg [] w w' := by
  obtain ⟨h0, h1, h2, h3, h4⟩ := h.cells
  obtain ⟨V, hV, hV2⟩ := h.map
  have hC : Chg [] w (w.alloc (.cells #[.map (some b)] 136)) := (Chg.refl [] w).alloc _
  have HS := Lib.hid (sorted_any (w.alloc (.cells #[.map (some b)] 136)) w.heap.size b S.m V (Own.new w _ _) (hV.kept hC) (fun a => hV2.isS))
  clear h hV hV2 hC
  go_enter Tryz.func74, Tryz.ntmps74
  go_wp2_with (first
    | (go_at_call 129; refine (keysOf_any _ _).mono ?_; rintro e w1 ⟨rfl, rfl⟩)
    | (go_at_call 128; refine HS.out.mono ?_; rintro e w2 ⟨v2, rfl, hl2, hc2⟩)
    | fail)
  go_ret
  exact ⟨v2, rfl, hl2.base (by rw [World.size_alloc]; omega), ((Chg.refl [] w).alloc _).trans hc2⟩
theorem CelV.removed {w : World} {C : List Nat} {m : Nat → Option Ce} {V : Nat → Option Value} (h : CelV w C m V) (f t : Nat) : CelV w C (rmC m f t) (rmV V f t) := fun a => by
  unfold rmC rmV
  by_cases e : f ≤ a ∧ a < t
  · have e2 : inS f t a = true := by unfold inS; simp [e.1, e.2]
    rw [if_pos e, if_pos e2]; exact .inl ⟨rfl, rfl⟩
  · have e2 : ¬ (inS f t a = true) := by unfold inS; intro h9; simp at h9; exact e h9
    rw [if_neg e, if_neg e2]; exact h a
theorem Sta.bRow {w : World} {q p : Nat} {v : Value} {b : Nat} {C : List Nat} {S : PS} (h : Sta w q p v b C S) : q ≠ b ∧ p ≠ b ∧ ∀ g, v.ownBlock = some g → g ≠ b := by
  obtain ⟨V, hV, _⟩ := h.map
  refine ⟨hV.neOwn h.own, hV.neOwn h.set.own, fun g hg e => ?_⟩
  subst e
  obtain ⟨D, ⟨es, clock, h1, _⟩, _⟩ := hV.own
  rcases h.set.row.2 with ⟨hn, _⟩ | ⟨g', cap, cur, hv, hb, hgg, rest⟩
  · rw [hn] at hg; cases hg
  · rw [hv] at hg
    simp [Value.ownBlock] at hg
    subst hg
    rw [hgg] at h1; simp at h1
theorem Sta.removed {w w' : World} {q p : Nat} {v : Value} {b : Nat} {C : List Nat} {S : PS} {V : Nat → Option Value} (h : Sta w q p v b C S) (hV2 : CelV w C S.m V) (hc : Chg [b] w w') {f t : Nat} (hm : MapV w' b (rmV V f t)) (hg : Gd { S with m := rmC S.m f t }) :
    Sta w' q p v b C { S with m := rmC S.m f t } := by
  obtain ⟨n1, n2, n3⟩ := h.bRow
  have hC : ∀ x ∈ C, x ∉ [b] := fun x hx => by have := (h.ap x hx).2; simp only [List.mem_cons, not_or] at this; simpa using this.2.2.1
  exact ⟨h.own.chg hc (by simpa using n1), h.set.chg hc (by simpa using n2) (fun g hgg => by simpa using n3 g hgg), ⟨_, hm, (hV2.chg hc hC).removed f t⟩, hg, fun x hx => ⟨Nat.lt_of_lt_of_le (h.ap x hx).1 hc.size, (h.ap x hx).2⟩⟩
end Go.Proofs.YtmpajlpemabniaaGreat
namespace Go.Proofs.YtmpajlpemabniaaGreat
open Go.RowKit Go.Maps Go.Shelf Go.Deep
set_option linter.unusedVariables false
set_option linter.unusedSimpArgs false
def rcv (k : Int) (n t : Nat) (A : CeT) : Value := .agg #[.int .u64 k, .int .u64 (n : Int), .int .u64 (t : Int), .int .i64 A.x.k, .slice A.a A.x.d.length A.c, .slice A.a2 A.x.b.length A.c2]
def rcb (k : Int) (n t : Nat) (A : CeT) : Obj := .cells #[.int .u64 k, .int .u64 (n : Int), .int .u64 (t : Int), .int .i64 A.x.k, .slice A.a A.x.d.length A.c, .slice A.a2 A.x.b.length A.c2] 101
theorem removeCells_raw (w : World) {q b : Nat} {V : Nat → Option Value} (h4 : w.cell? ⟨q, 4, none⟩ = some (.map (some b))) (hV : MapV w b V) (hvals : ∀ a v, V a = some v → ∃ A : CeT, v = A.val) (f t : Nat) :
    Calls Tryz.prog 91 #[.pointer (some ⟨q, 0, none⟩), .int .u64 (f : Int), .int .u64 (t : Int)] w fun e w' => e = .returned (.tuple #[]) ∧ MapV w' b (rmV V f t) ∧ Chg [b] w w' := by
  obtain ⟨w2, HW⟩ : ∃ W, Hid ((w.alloc (.cells #[.int .u64 (f : Int)] 37)).alloc (.cells #[.int .u64 (t : Int)] 37) = W) := ⟨_, Lib.hid rfl⟩
  have hC2 : Chg [] w w2 := by rw [← HW.out]; exact ((Chg.refl [] w).alloc _).alloc _
  have hd := delf_any f t w.heap.size (w.heap.size + 1) b V w2 (hV.kept hC2) hvals (by rw [← HW.out]; exact (Own.new w _ _).alloc _) (by
    rw [← HW.out]
    have h9 := Own.new (w.alloc (.cells #[.int .u64 (f : Int)] 37)) 37 [.int .u64 (t : Int)]
    rw [World.size_alloc] at h9
    exact h9)
  have HD := Lib.hid hd
  have HC := Lib.hid hC2
  have h44 : w2.cell? ⟨q, 4, none⟩ = some (.map (some b)) := hC2.cell h4 (by simp)
  clear hV hd hC2 h4 hvals
  go_enter Tryz.func91, Tryz.ntmps91
  go_wp2_with (first
    | (rw [HW.out]; go_wp2_with (first
        | (go_at_call 148; refine HD.out.mono ?_; rintro e w3 ⟨rfl, hm3, hg3⟩)
        | fail))
    | fail)
  go_end0
  exact ⟨rfl, hm3, (HC.out.mono (by simp)).grown hg3 (fun k e => .inl (by injection e with e; simp [e]))⟩
theorem Own.five {w : World} {q : Nat} {a b c d e : Value} (h : Own w q 138 [a, b, c, d, e]) :
    (w.cell? ⟨q, 0, none⟩ = some a ∧ w.cell? ⟨q, 1, none⟩ = some b ∧ w.cell? ⟨q, 2, none⟩ = some c ∧ w.cell? ⟨q, 3, none⟩ = some d ∧ w.cell? ⟨q, 4, none⟩ = some e) ∧ ∀ i, w.frozen? ⟨q, i, none⟩ = false := by
  refine ⟨⟨?_, ?_, ?_, ?_, ?_⟩, h.frozen⟩ <;> rw [h.cell] <;> rfl
theorem Sta.numbers {w w' : World} {q p : Nat} {v : Value} {b : Nat} {C : List Nat} {S S' : PS} (h : Sta w q p v b C S) (hc : Chg [q] w w') (hT : S'.T = S.T) (hm : S'.m = S.m) (hg : Gd S')
    (ho : Own w' q 138 [.int .u64 (S'.ep : Int), .int .u64 (S'.op : Int), .int .u64 (S'.mr : Int), .pointer (some ⟨p, 0, none⟩), .map (some b)]) : Sta w' q p v b C S' := by
  obtain ⟨V, hV, hV2⟩ := h.map
  have hC : ∀ x ∈ C, x ∉ [q] := fun x hx => by have := (h.ap x hx).2; simp only [List.mem_cons, not_or] at this; simpa using this.1
  have hq : ∀ g, v.ownBlock = some g → g ≠ q := fun g hg e => by
    subst e
    rcases h.set.row.2 with ⟨hn, _⟩ | ⟨g', cap, cur, hv, hb, hgg, rest⟩
    · rw [hn] at hg; cases hg
    · rw [hv] at hg
      simp [Value.ownBlock] at hg
      subst hg
      have h1 := h.own
      unfold Own at h1
      rw [hgg] at h1; simp at h1
  refine ⟨ho, ?_, ⟨V, hV.chg hc (by simpa using fun e => h.bRow.1 e.symm), by rw [hm]; exact hV2.chg hc hC⟩, hg, fun x hx => ⟨Nat.lt_of_lt_of_le (h.ap x hx).1 hc.size, (h.ap x hx).2⟩⟩
  rw [hT]
  exact h.set.chg hc (by simpa using fun e => h.qp e.symm) (fun g hg => by simpa using hq g hg)
theorem exec_ep (w : World) {q p : Nat} {v : Value} {b : Nat} {C : List Nat} {S : PS} (h : Sta w q p v b C S) (n t : Nat) (A : CeT) (hg : Gd { S with ep := n }) :
    Calls Tryz.prog 43 #[.pointer (some ⟨q, 0, none⟩), rcv 1 n t A] w fun e w' => e = .returned (.tuple #[]) ∧ Sta w' q p v b C { S with ep := n } ∧ Chg [q] w w' := by
  have ho := h.own.alloc (rcb 1 n t A)
  have HH := Lib.hid h
  have HG := Lib.hid hg
  unfold rcb at ho
  unfold rcv
  obtain ⟨⟨c0, c1, c2, c3, c4⟩, fr⟩ := ho.five
  have f0 := fr 0
  have HO := Lib.hid (ho.set 0 (.int .u64 (n : Int)))
  clear h ho fr hg
  go_enter Tryz.func43, Tryz.ntmps43
  go_wp2_with fail
  go_end0
  have hc : Chg [q] w ((w.alloc (rcb 1 n t A)).setCell ⟨q, 0, none⟩ (.int .u64 (n : Int))) := ((Chg.refl [q] w).alloc _).setCell (.inl (by simp)) _
  exact ⟨rfl, HH.out.numbers hc rfl rfl HG.out HO.out, hc⟩
theorem exec_op (w : World) {q p : Nat} {v : Value} {b : Nat} {C : List Nat} {S : PS} (h : Sta w q p v b C S) (n t : Nat) (A : CeT) (hg : Gd { S with op := n }) :
    Calls Tryz.prog 43 #[.pointer (some ⟨q, 0, none⟩), rcv 5 n t A] w fun e w' => e = .returned (.tuple #[]) ∧ Sta w' q p v b C { S with op := n } ∧ Chg [q] w w' := by
  have ho := h.own.alloc (rcb 5 n t A)
  have HH := Lib.hid h
  have HG := Lib.hid hg
  unfold rcb at ho
  unfold rcv
  obtain ⟨⟨c0, c1, c2, c3, c4⟩, fr⟩ := ho.five
  have f1 := fr 1
  have HO := Lib.hid (ho.set 1 (.int .u64 (n : Int)))
  clear h ho fr hg
  go_enter Tryz.func43, Tryz.ntmps43
  go_wp2_with fail
  go_end0
  have hc : Chg [q] w ((w.alloc (rcb 5 n t A)).setCell ⟨q, 1, none⟩ (.int .u64 (n : Int))) := ((Chg.refl [q] w).alloc _).setCell (.inl (by simp)) _
  exact ⟨rfl, HH.out.numbers hc rfl rfl HG.out HO.out, hc⟩
def EnS (w1 : World) (g0 : Nat) (k n t : Nat) (W : World) : Prop :=
  W.cell? ⟨g0, 0, none⟩ = some (.int .u64 (k : Int)) ∧ W.cell? ⟨g0, 1, none⟩ = some (.int .u64 (n : Int)) ∧ W.cell? ⟨g0, 2, none⟩ = some (.int .u64 (t : Int)) ∧ Chg [] w1 W
theorem EnS.step {w1 : World} {g0 k n t : Nat} {W W' : World} (h : EnS w1 g0 k n t W) (hc : Chg [] W W') : EnS w1 g0 k n t W' :=
  ⟨hc.cell h.1 (by simp), hc.cell h.2.1 (by simp), hc.cell h.2.2.1 (by simp), h.2.2.2.trans hc⟩
theorem ro2 (w1 : World) (x y : List Value) (tx ty : TypeId) : Ro ((w1.alloc (.cells x.toArray tx)).alloc (.cells y.toArray ty)).drew ((w1.alloc (.cells x.toArray tx)).alloc (.cells y.toArray ty)).drew.heap.size (some ⟨w1.heap.size, 0, none⟩) x ∧ Ro ((w1.alloc (.cells x.toArray tx)).alloc (.cells y.toArray ty)).drew ((w1.alloc (.cells x.toArray tx)).alloc (.cells y.toArray ty)).drew.heap.size (some ⟨w1.heap.size + 1, 0, none⟩) y := by
  have h1 : Own ((w1.alloc (.cells x.toArray tx)).alloc (.cells y.toArray ty)).drew w1.heap.size tx x := (Own.new w1 tx x).alloc _
  have h2 : Own ((w1.alloc (.cells x.toArray tx)).alloc (.cells y.toArray ty)).drew (w1.heap.size + 1) ty y := by
    have h9 := Own.new (w1.alloc (.cells x.toArray tx)) ty y
    rw [World.size_alloc] at h9
    exact h9
  exact ⟨h1.ro _ h1.lt, h2.ro _ h2.lt⟩
def PkP (w1 : World) (bs : List UInt8) (p : Nat) (v3 v4 : Value) (W : World) : Prop :=
  ∃ g, v3 = .slice (some ⟨g, 0, none⟩) p p ∧ v4 = .bool true ∧ w1.heap.size ≤ g ∧ Own W g 5 (u8s bs) ∧ Chg [] w1 W
set_option maxHeartbeats 1000000 in
set_option maxRecDepth 100000 in
theorem encoded_any (w : World) (r : Rc) (A : CeT) (ho : okN r) (hA : r.k = 2 → A.x = r.c ∧ Ro w w.heap.size A.a (u8s A.x.d) ∧ Ro w w.heap.size A.a2 (bcs A.x.b)) :
    Calls Tryz.prog 122 #[rcv (r.k : Int) r.n r.t A] w fun e w' => ∃ a c, e = .returned (.slice a (encR r).length c) ∧ Ro w' w'.heap.size a (u8s (encR r)) ∧ (∀ ad, a = some ad → w.heap.size ≤ ad.block) ∧ Chg [] w w' := by
  have hpk := ho.pack
  obtain ⟨k, n, t, c⟩ := r
  simp only at hA hpk ⊢
  obtain ⟨bs, hbs⟩ : ∃ x, Hid (packL (wid3 k) [k, n, t] = x) := ⟨_, Lib.hid rfl⟩
  obtain ⟨p, hp⟩ : ∃ x, Hid (bs.length = x) := ⟨_, Lib.hid rfl⟩
  have HW := Lib.hid (fun W => pwidths_any k (by have := ho.k1; simpa using this) (by have := ho.k5; simpa using this) W)
  have HP : Hid (∀ W aw av, Ro W W.heap.size (some ⟨aw, 0, none⟩) (i64s (wid3 k)) → Ro W W.heap.size (some ⟨av, 0, none⟩) (u64s [k, n, t]) → Calls Tryz.prog 179 #[.slice (some ⟨aw, 0, none⟩) 3 3, .slice (some ⟨av, 0, none⟩) 3 3] W fun e w' => ∃ g, e = .returned (.tuple #[.slice (some ⟨g, 0, none⟩) p p, .bool true]) ∧ W.heap.size ≤ g ∧ Own w' g 5 (u8s bs) ∧ Chg [] W w') := by
    apply Lib.hid
    intro W aw av g1 g2
    have := pack_yes (wid3 k) [k, n, t] (some ⟨aw, 0, none⟩) (some ⟨av, 0, none⟩) 3 3 W.heap.size W g1 g2 (Nat.le_refl _) (by rw [wid3_len]; omega) hpk
    rw [wid3_len] at this
    refine this.mono ?_
    rintro e w' ⟨g, cs, h1, h2, h3, h4, h5⟩
    have e9 : cs = bs := by rw [← hbs.out]; exact h3.unique (packL_is (wid3_len k))
    subst e9
    rw [hp.out] at h1
    exact ⟨g, h1, h2, h4, low_chg h5⟩
  obtain ⟨w1, HW1⟩ : ∃ W, Hid (w.alloc (rcb (k : Int) n t A) = W) := ⟨_, Lib.hid rfl⟩
  have hC1 : Chg [] w w1 := by rw [← HW1.out]; exact (Chg.refl [] w).alloc _
  have hob : Own w1 w.heap.size 101 [.int .u64 (k : Int), .int .u64 (n : Int), .int .u64 (t : Int), .int .i64 A.x.k, .slice A.a A.x.d.length A.c, .slice A.a2 A.x.b.length A.c2] := by rw [← HW1.out]; exact Own.new w _ _
  have HS : Hid (EnS w1 w.heap.size k n t w1) := Lib.hid ⟨by rw [hob.cell]; rfl, by rw [hob.cell]; rfl, by rw [hob.cell]; rfl, Chg.refl [] w1⟩
  have HO := Lib.hid hob
  have HC1 := Lib.hid hC1
  have HA := Lib.hid hA
  have HOK := Lib.hid ho
  have HKK := Lib.hid hpk
  clear hpk hC1 hob hA ho
  obtain ⟨⟨ck, cd, cb⟩, a1, c1, a2, c2⟩ := A
  simp only at HA HO HW1
  unfold rcv
  unfold rcb at HW1
  simp only at HW1 ⊢
  obtain ⟨dn, hdn⟩ : ∃ x, Hid (cd.length = x) := ⟨_, Lib.hid rfl⟩
  obtain ⟨bn, hbn⟩ : ∃ x, Hid (cb.length = x) := ⟨_, Lib.hid rfl⟩
  rw [hdn.out, hbn.out] at HW1 HO ⊢
  go_enter Tryz.func122, Tryz.ntmps122
  go_upto_region 1 with fail
  rw [HW1.out]
  go_cut [3, 4] from 3 to 20 (fun v3 v4 wx => PkP w1 bs p v3 v4 wx)
  case first =>
    refine wp_region_held_drew (S := (fun W : World => W.cell? ⟨w.heap.size, 0, none⟩ = some (.int .u64 (k : Int)) ∧ W.cell? ⟨w.heap.size, 1, none⟩ = some (.int .u64 (n : Int)) ∧ W.cell? ⟨w.heap.size, 2, none⟩ = some (.int .u64 (t : Int)) ∧ Chg [] w1 W)) (by kernel_rfl) (by have h9 := HS.out.step (Chg.refl [] w1).drew; exact h9) (fun hHeld => ?_)
    refine tkH (i := 0) (v := ?_) rfl hHeld ?_ ?_
    rotate_left
    · (intro w hSw; first | (go_simp; done) | (go_simp; with_reducible rfl))
    (try simp only [Act.put, sTt, sZz, sSs, sGt, sGs, sGz])
    refine tkH (i := 1) (v := ?_) rfl hHeld ?_ ?_
    rotate_left
    · (intro w hSw; first | (go_simp; done) | (go_simp; with_reducible rfl))
    (try simp only [Act.put, sTt, sZz, sSs, sGt, sGs, sGz])
    refine tkH (i := 3) (v := ?_) rfl hHeld ?_ ?_
    rotate_left
    · (intro w hSw; first | (go_simp; done) | (go_simp; with_reducible rfl))
    (try simp only [Act.put, sTt, sZz, sSs, sGt, sGs, sGz])
    refine tkH (i := 4) (v := ?_) rfl hHeld ?_ ?_
    rotate_left
    · (intro w hSw; first | (go_simp; done) | (go_simp; with_reducible rfl))
    (try simp only [Act.put, sTt, sZz, sSs, sGt, sGs, sGz])
    refine tkH (i := 5) (v := ?_) rfl hHeld ?_ ?_
    rotate_left
    · (intro w hSw; first | (go_simp; done) | (go_simp; with_reducible rfl))
    (try simp only [Act.put, sTt, sZz, sSs, sGt, sGs, sGz])
    refine tkH (i := 6) (v := ?_) rfl hHeld ?_ ?_
    rotate_left
    · (intro w hSw; first | (go_simp; done) | (go_simp; with_reducible rfl))
    (try simp only [Act.put, sTt, sZz, sSs, sGt, sGs, sGz])
    refine tkH (i := 7) (v := ?_) rfl hHeld ?_ ?_
    rotate_left
    · (intro w hSw; first | (go_simp; done) | (go_simp; with_reducible rfl))
    (try simp only [Act.put, sTt, sZz, sSs, sGt, sGs, sGz])
    refine tkH (i := 8) (v := ?_) rfl hHeld ?_ ?_
    rotate_left
    · (intro w hSw; first | (go_simp; done) | (go_simp; with_reducible rfl))
    (try simp only [Act.put, sTt, sZz, sSs, sGt, sGs, sGz])
    refine wpAnyH_ready (rs := [2,9]) (by kernel_rfl) (by simp) (AllReadyH.cons rfl (fun K hK => ?_) (AllReadyH.cons rfl (fun K hK => ?_) AllReadyH.nil))
    · have hH := hHeld
      (go_simp; go_at_call 88; refine (HW.out _).mono ?_; rintro e w2 ⟨rfl, rfl⟩)
      refine hK.out _ _ (by exact EnS.step hH ((Chg.refl [] _).alloc _)) (fun hHq1 => ?_)
      clear hK K hH 
      (try simp only [Act.put, sTt, sZz, sSs, sGt, sGs, sGz])
      refine wpAnyH_ready (rs := [9]) (by kernel_rfl) (by simp) (AllReadyH.cons rfl (fun K hK => ?_) AllReadyH.nil)
      have hH := hHq1
      (go_simp; skip)
      refine hK.out _ _ (by exact EnS.step hH ((Chg.refl [] _).alloc _)) (fun hHq2 => ?_)
      clear hK K hH hHq1
      (try simp only [Act.put, sTt, sZz, sSs, sGt, sGs, sGz])
      refine wpAnyH_ready (rs := [10]) (by kernel_rfl) (by simp) (AllReadyH.cons rfl (fun K hK => ?_) AllReadyH.nil)
      have hH := hHq2
      (go_simp; go_at_call 179; refine (HP.out _ _ _ (by first | exact (ro2 _ _ _ _ _).1 | exact (ro2 _ _ _ _ _).2) (by first | exact (ro2 _ _ _ _ _).1 | exact (ro2 _ _ _ _ _).2)).mono ?_; rintro e w5 ⟨g5, rfl, hg5, ho5, hc5⟩)
      refine hK.out _ _ (by exact EnS.step hH hc5) (fun hHq3 => ?_)
      clear hK K hH hHq2
      (try simp only [Act.put, sTt, sZz, sSs, sGt, sGs, sGz])
      refine tkH (i := 11) (v := ?_) rfl hHq3 ?_ ?_
      rotate_left
      · (intro w hSw; first | (go_simp; done) | (go_simp; with_reducible rfl))
      (try simp only [Act.put, sTt, sZz, sSs, sGt, sGs, sGz])
      refine tkH (i := 12) (v := ?_) rfl hHq3 ?_ ?_
      rotate_left
      · (intro w hSw; first | (go_simp; done) | (go_simp; with_reducible rfl))
      (try simp only [Act.put, sTt, sZz, sSs, sGt, sGs, sGz])
      refine tkH (i := 13) (v := ?_) rfl hHq3 ?_ ?_
      rotate_left
      · (intro w hSw; first | (go_simp; done) | (go_simp; with_reducible rfl))
      (try simp only [Act.put, sTt, sZz, sSs, sGt, sGs, sGz])
      refine tkH (i := 14) (v := ?_) rfl hHq3 ?_ ?_
      rotate_left
      · (intro w hSw; first | (go_simp; done) | (go_simp; with_reducible rfl))
      (try simp only [Act.put, sTt, sZz, sSs, sGt, sGs, sGz])
      refine tkH (i := 15) (v := ?_) rfl hHq3 ?_ ?_
      rotate_left
      · (intro w hSw; first | (go_simp; done) | (go_simp; with_reducible rfl))
      (try simp only [Act.put, sTt, sZz, sSs, sGt, sGs, sGz])
      refine wpAnyH_done (by kernel_rfl) ?_ _
      have hEnd := hHq3
      (go_wp2_with fail; go_meet; (case rel => exact ⟨g5, rfl, rfl, Nat.le_trans (((Chg.refl [] w1).alloc _).alloc _).drew.size hg5, ho5, hEnd.2.2.2⟩))
    · have hH := hHeld
      (go_simp; skip)
      refine hK.out _ _ (by exact EnS.step hH ((Chg.refl [] _).alloc _)) (fun hHq4 => ?_)
      clear hK K hH 
      (try simp only [Act.put, sTt, sZz, sSs, sGt, sGs, sGz])
      refine wpAnyH_ready (rs := [2]) (by kernel_rfl) (by simp) (AllReadyH.cons rfl (fun K hK => ?_) AllReadyH.nil)
      have hH := hHq4
      (go_simp; go_at_call 88; refine (HW.out _).mono ?_; rintro e w2 ⟨rfl, rfl⟩)
      refine hK.out _ _ (by exact EnS.step hH ((Chg.refl [] _).alloc _)) (fun hHq5 => ?_)
      clear hK K hH hHq4
      (try simp only [Act.put, sTt, sZz, sSs, sGt, sGs, sGz])
      refine wpAnyH_ready (rs := [10]) (by kernel_rfl) (by simp) (AllReadyH.cons rfl (fun K hK => ?_) AllReadyH.nil)
      have hH := hHq5
      (go_simp; go_at_call 179; refine (HP.out _ _ _ (by first | exact (ro2 _ _ _ _ _).1 | exact (ro2 _ _ _ _ _).2) (by first | exact (ro2 _ _ _ _ _).1 | exact (ro2 _ _ _ _ _).2)).mono ?_; rintro e w5 ⟨g5, rfl, hg5, ho5, hc5⟩)
      refine hK.out _ _ (by exact EnS.step hH hc5) (fun hHq6 => ?_)
      clear hK K hH hHq5
      (try simp only [Act.put, sTt, sZz, sSs, sGt, sGs, sGz])
      refine tkH (i := 11) (v := ?_) rfl hHq6 ?_ ?_
      rotate_left
      · (intro w hSw; first | (go_simp; done) | (go_simp; with_reducible rfl))
      (try simp only [Act.put, sTt, sZz, sSs, sGt, sGs, sGz])
      refine tkH (i := 12) (v := ?_) rfl hHq6 ?_ ?_
      rotate_left
      · (intro w hSw; first | (go_simp; done) | (go_simp; with_reducible rfl))
      (try simp only [Act.put, sTt, sZz, sSs, sGt, sGs, sGz])
      refine tkH (i := 13) (v := ?_) rfl hHq6 ?_ ?_
      rotate_left
      · (intro w hSw; first | (go_simp; done) | (go_simp; with_reducible rfl))
      (try simp only [Act.put, sTt, sZz, sSs, sGt, sGs, sGz])
      refine tkH (i := 14) (v := ?_) rfl hHq6 ?_ ?_
      rotate_left
      · (intro w hSw; first | (go_simp; done) | (go_simp; with_reducible rfl))
      (try simp only [Act.put, sTt, sZz, sSs, sGt, sGs, sGz])
      refine tkH (i := 15) (v := ?_) rfl hHq6 ?_ ?_
      rotate_left
      · (intro w hSw; first | (go_simp; done) | (go_simp; with_reducible rfl))
      (try simp only [Act.put, sTt, sZz, sSs, sGt, sGs, sGz])
      refine wpAnyH_done (by kernel_rfl) ?_ _
      have hEnd := hHq6
      (go_wp2_with fail; go_meet; (case rel => exact ⟨g5, rfl, rfl, Nat.le_trans (((Chg.refl [] w1).alloc _).alloc _).drew.size hg5, ho5, hEnd.2.2.2⟩))
  case rest =>
    rename World => wx
    obtain ⟨g, rfl, rfl, hg, hog, hcx⟩ := hcut
    have hO2 := HO.out.chg hcx (by simp)
    have HG := Lib.hid (And.intro hg (And.intro hog hcx))
    have q0 : wx.cell? ⟨w.heap.size, 0, none⟩ = some (.int .u64 (k : Int)) := by rw [hO2.cell]; rfl
    have q3 : wx.cell? ⟨w.heap.size, 3, none⟩ = some (.int .i64 ck) := by rw [hO2.cell]; rfl
    have q4 : wx.cell? ⟨w.heap.size, 4, none⟩ = some (.slice a1 dn c1) := by rw [hO2.cell]; rfl
    have q5 : wx.cell? ⟨w.heap.size, 5, none⟩ = some (.slice a2 bn c2) := by rw [hO2.cell]; rfl
    clear hg hog hcx hO2
    by_cases hk : k = 2
    · subst hk
      have hA2 := HA.out rfl
      obtain ⟨e1, hr1, hr2⟩ := hA2
      subst e1
      have hcw := HC1.out.trans HG.out.2.2
      have hrt := HOK.out.c2 rfl
      have hE := enc_yes ⟨ck, cd, cb⟩ a1 c1 a2 c2 w.heap.size wx (hr1.below hcw.low (Nat.le_refl _)) (hr2.below hcw.low (Nat.le_refl _)) hcw.size (right_fit hrt) hrt
      simp only [hdn.out, hbn.out] at hE
      obtain ⟨es, hes⟩ : ∃ x, Hid (encC ⟨ck, cd, cb⟩ = x) := ⟨_, Lib.hid rfl⟩
      obtain ⟨m, hm⟩ : ∃ x, Hid (es.length = x) := ⟨_, Lib.hid rfl⟩
      have HE : Hid (Calls Tryz.prog 180 #[.agg #[.int .i64 ck, .slice a1 dn c1, .slice a2 bn c2]] wx fun e w' => ∃ a' c', e = .returned (.tuple #[.slice a' m c', .int .i64 0]) ∧ Ro w' w'.heap.size a' (u8s es) ∧ Below wx.heap.size wx w') := by
        apply Lib.hid
        refine Calls.mono (R' := _) hE ?_
        rintro e w' ⟨bs', a', c', h1, h2, h3, _, h5⟩
        have e9 : bs' = es := by rw [← hes.out]; exact h2.unique (encC_is hrt)
        subst e9
        rw [hm.out] at h1
        exact ⟨a', c', h1, h3, h5⟩
      have hlen := (encC_len hrt).2
      rw [hes.out, hm.out] at hlen
      have hpl : p ≤ 10 := by
        have h9 := (packL_is (l := wid3 2) (vs := [2, n, t]) (wid3_len 2)).1
        rw [hbs.out, hp.out] at h9
        rw [wid3_bytes] at h9
        simp at h9; omega
      have HCW := Lib.hid hcw
      clear hE hr1 hr2 hcw hrt HP HW HS HA
      have HCl : Hid ((u8s bs).length = p) := Lib.hid (by rw [u8s_length]; exact hp.out)
      go_wp2_with (first
        | (go_at_call 180; refine HE.out.mono ?_; rintro e w6 ⟨a', c', rfl, hr6, hb6⟩; have HR6 := Lib.hid hr6; have HB6 := Lib.hid (HCW.out.trans (low_chg hb6)); have HLs : Hid (Lst w6 w.heap.size 5 (.slice (some ⟨g, 0, none⟩) p p) (u8s bs)) := Lib.hid ((HG.out.2.1.below hb6 HG.out.2.1.lt).lst (Nat.le_trans HC1.out.size HG.out.1) p HCl.out (by unfold maxLen; omega)); clear hr6 hb6)
        | (at_builtin; refine wpList_appB rfl (.tmp 37) (.tmp 38) 39 rfl w.heap.size 5 (.int .u8 0) 1 Tryz.underlying39 Tryz.info_u8 rfl (.slice (some ⟨g, 0, none⟩) p p) (u8s bs) rfl HLs.out a' w6.heap.size m c' (u8s es) rfl (by rw [u8s_length]; exact hm.out) HR6.out (u8s_oneCell _) (by have := HCl.out; omega) (by have := HCl.out; omega) w.heap.size w HB6.out.low (Nat.le_refl _) HB6.out.size ?_; intro v' w8 hl8 hb8 hs8)
        | fail)
      have HL8 := Lib.hid hl8.out
      clear hl8 hs8
      go_ret
      obtain ⟨a8, c8, e8, hr8, hc8, _⟩ := HL8.out.form
      have e9 : u8s bs ++ u8s es = u8s (bs ++ es) := by simp [u8s]
      have hR : encR ⟨2, n, t, ⟨ck, cd, cb⟩⟩ = bs ++ es := by unfold encR; simp only [if_true]; rw [hbs.out, hes.out]
      rw [e9] at e8 hr8
      rw [hR]
      have hlt := HL8.out.lt
      refine ⟨a8, c8, by rw [← u8s_length]; exact congrArg _ e8, hr8, fun ad e => ?_, low_chg hb8⟩
      subst e
      exact (hlt ad.block (by rw [e8]; rfl)).1
    · have e1 : ((k : Int) != 2) = true := by simp; omega
      have e2 : ((k : Int) == 2) = false := by simp; omega
      clear HP HW HS
      go_wp2_with fail
      go_ret
      have hR : encR ⟨k, n, t, c⟩ = bs := by unfold encR; simp only [if_neg hk, List.append_nil]; exact hbs.out
      rw [hR, hp.out]
      exact ⟨some ⟨g, 0, none⟩, p, rfl, HG.out.2.1.ro _ HG.out.2.1.lt, fun ad e => by cases e; exact Nat.le_trans HC1.out.size HG.out.1, HC1.out.trans HG.out.2.2⟩
end Go.Proofs.YtmpajlpemabniaaGreat
