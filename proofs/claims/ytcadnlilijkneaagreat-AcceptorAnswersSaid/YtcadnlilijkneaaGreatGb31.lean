/-
  Maps whose keys are uint64 and whose values are whole values: read, written, made, cloned; which keys a range has given. Plain lemmas, no claim of their own.
-/
import Derived.Test.YtcadnlilijkneaaGreatGb30
import Derived.Test.YtcadnlilijkneaaGreatGb7
import Derived.Maps.RangeWalk
import Derived.Maps.OwnIn
import Derived.Maps.OwnSet
import Derived.Maps.Ext
import Derived.Lib.SlKeysI
import Derived.Test.YtcadnlilijkneaaGreatGb14
import Derived.Laws.StructEq
import Derived.Test.YtcadnlilijkneaaGreatGb3
namespace Go.Proofs.YtcadnlilijkneaaGreat
open Go.RowKit Go.Maps Go.Shelf
set_option linter.unusedVariables false
set_option linter.unusedSimpArgs false

abbrev uk (a : Nat) : Lit := .int .u64 (a : Int)
theorem ukeyed : Keyed Tryz.prog 23 := int_keyed Tryz.underlying23
theorem uk_inj {a b : Nat} (h : uk a = uk b) : a = b := by simp only [Lit.int.injEq, true_and] at h; omega
theorem uk_isKey (a : Nat) : WideAt.IsKeyLit (uk a) := by simp [WideAt.IsKeyLit]
theorem keyOf_uk {a : Nat} (h : a < 18446744073709551616) : keyOf Tryz.prog 23 (.int .u64 (a : Int)) = some (uk a) := keyOf_int_mk Tryz.underlying23 (WalkArith.wf_u64 (by omega))
theorem keyOf_u64 {key : Value} {kl : Lit} (h : keyOf Tryz.prog 23 key = some kl) : ∃ a : Nat, a < 18446744073709551616 ∧ key = .int .u64 (a : Int) ∧ kl = uk a := by
  obtain ⟨x, rfl, rfl, hw⟩ := Maps.keyOf_int_inv Tryz.underlying23 h
  have h2 : 0 ≤ x ∧ x ≤ 18446744073709551615 := by
    simp [Lit.wf, IntKind.min, IntKind.max, IntKind.signed, IntKind.bits] at hw
    omega
  obtain ⟨a, rfl⟩ : ∃ a : Nat, x = (a : Int) := ⟨x.toNat, by omega⟩
  exact ⟨a, by omega, rfl, rfl⟩
structure MapD (V : Nat → Option Value) (D : DataW Value) : Prop where
  some_ : ∀ a v, V a = some v → has D (uk a) = true ∧ ∀ z, D.atKey (uk a) z = .held v
  none_ : ∀ a, V a = none → has D (uk a) = false
  keys : ∀ kl, has D kl = true → ∃ a, a < 18446744073709551616 ∧ kl = uk a
theorem MapD.has {V : Nat → Option Value} {D : DataW Value} (h : MapD V D) (a : Nat) : Go.Maps.has D (uk a) = (V a).isSome := by
  cases hV : V a with
  | none => exact h.none_ a hV
  | some v => exact (h.some_ a v hV).1
theorem MapD.empty : MapD (fun _ => none) (.map []) := ⟨fun _ _ h => (by cases h), fun _ _ => rfl, fun kl h => by simp [Go.Maps.has] at h⟩
theorem MapD.put {V : Nat → Option Value} {D : DataW Value} (h : MapD V D) (hD : IsMap D) {i : Nat} (hi : i < 18446744073709551616) (v : Value) : MapD (updV V i v) (D.put (uk i) (.held v)) := by
  have hne : ∀ j, j ≠ i → uk j ≠ uk i := fun j hj e => hj (uk_inj e)
  refine ⟨fun j u hj => ?_, fun j hj => ?_, fun kl hkl => ?_⟩
  · by_cases e : j = i
    · subst e
      simp only [updV, if_true, Option.some.injEq] at hj
      subst hj
      exact ⟨has_put_same hD (uk_isKey j) _, fun z => atKey_put_same hD (uk_isKey j) _ z⟩
    · simp only [updV, if_neg e] at hj
      obtain ⟨h1, h2⟩ := h.some_ j u hj
      exact ⟨by rw [has_put_other (hne j e)]; exact h1, fun z => by rw [atKey_put_other (hne j e)]; exact h2 z⟩
  · by_cases e : j = i
    · subst e
      simp [updV] at hj
    · simp only [updV, if_neg e] at hj
      rw [has_put_other (hne j e)]
      exact h.none_ j hj
  · by_cases e : kl = uk i
    · exact ⟨i, hi, e⟩
    · rw [has_put_other e] at hkl
      exact h.keys kl hkl
structure MapV (w : World) (b : Nat) (V : Nat → Option Value) : Prop where
  own : ∃ D, w.ownsMap Tryz.prog 23 idR b 1048577 D ∧ MapD V D
  dom : ∀ a v, V a = some v → a < 1048577
theorem MapV.lt {w : World} {b : Nat} {V : Nat → Option Value} (h : MapV w b V) : b < w.heap.size := by obtain ⟨D, h1, _⟩ := h.own; exact h1.lt
theorem owns_block {w w' : World} {b n : Nat} {D : DataW Value} (h : w.ownsMap Tryz.prog 23 idR b n D) (hb : w'.heap[b]? = w.heap[b]?) : w'.ownsMap Tryz.prog 23 idR b n D := by
  obtain ⟨es, clock, h1, h2⟩ := h
  exact ⟨es, clock, hb.trans h1, h2⟩
theorem MapV.chg {l : List Nat} {w w' : World} {b : Nat} {V : Nat → Option Value} (h : MapV w b V) (hc : Chg l w w') (hb : b ∉ l) : MapV w' b V := by
  obtain ⟨D, h1, h2⟩ := h.own
  exact ⟨⟨D, owns_block h1 (hc.block b h1.lt hb), h2⟩, h.dom⟩
theorem MapV.kept {w w' : World} {b : Nat} {V : Nat → Option Value} (h : MapV w b V) (hc : Chg [] w w') : MapV w' b V := h.chg hc (by simp)
theorem tightM {w : World} {b n : Nat} {V : Nat → Option Value} {D : DataW Value} (h : w.ownsMap Tryz.prog 23 idR b n D) (hm : MapD V D) (hd : ∀ a v, V a = some v → a < 1048577) : MapV w b V := by
  refine ⟨⟨D, ?_, hm⟩, hd⟩
  obtain ⟨es, hD, hpw, hk⟩ := h.entries ukeyed
  obtain ⟨es0, clock, hb, F, hn, hD0⟩ := h
  refine ⟨es0, clock, hb, F, ?_, hD0⟩
  have e1 : es0.size = es.length := by
    rw [hD] at hD0
    have := DataW.map.inj hD0
    rw [this, length_sorted]
    simp
  rw [e1]
  subst hD
  have hx : ∀ p ∈ es, ∃ a, a < 18446744073709551616 ∧ p.1 = uk a := fun p hp => hm.keys p.1 (List.any_eq_true.2 ⟨p, hp, WideAt.sameKey_self (hk p hp)⟩)
  let f : Lit × DataW Value → Nat := fun p => match p.1 with | .int _ x => x.toNat | _ => 0
  have hf : ∀ p ∈ es, p.1 = uk (f p) := fun p hp => by
    obtain ⟨a, _, ha⟩ := hx p hp
    show p.1 = uk (match p.1 with | .int _ x => x.toNat | _ => 0)
    rw [ha]
    simp
  have hnd : (es.map f).Nodup := List.pairwise_map.2 (hpw.imp_of_mem fun {p q} hp hq hne e => hne (by rw [hf p hp, hf q hq, e]))
  have := nodup_le hnd (N := 1048577) fun x hx2 => by
    obtain ⟨p, hp, rfl⟩ := List.mem_map.1 hx2
    have h2 : Go.Maps.has (.map es) (uk (f p)) = true := by rw [← hf p hp]; exact List.any_eq_true.2 ⟨p, hp, WideAt.sameKey_self (hk p hp)⟩
    rw [hm.has] at h2
    obtain ⟨v, hv⟩ := Option.isSome_iff_exists.1 h2
    exact hd _ v hv
  simpa using this
theorem MapV.look {w : World} {b : Nat} {V : Nat → Option Value} (h : MapV w b V) {t e : TypeId} (ht : Tryz.prog.underlying t = some (.map 23 e)) {z : Value} (hz : (zeroValue e).run Tryz.prog w = .ok z w) {a : Nat} (ha : a < 18446744073709551616) :
    (Instr.lookup t (.map (some b)) (.int .u64 (a : Int)) true).run Tryz.prog w = .ok (.tuple #[(V a).getD z, .bool (V a).isSome]) w := by
  obtain ⟨D, ho, hm⟩ := h.own
  obtain ⟨v, ps, hrun, hv⟩ := ho.look_ok ukeyed ht hz (zd := .held z) (zp := []) rfl (keyOf_uk ha)
  have h2 := idR_inv hv
  rw [hrun, hm.has]
  cases hV : V a with
  | none =>
    have e1 : D.atKey (uk a) (.held z) = .held z := by
      have := hm.none_ a hV
      exact atKey_of_not_has this _
    rw [e1] at h2
    simp at h2
    simp [h2]
  | some u =>
    rw [(hm.some_ a u hV).2] at h2
    simp at h2
    simp [h2]
theorem MapV.put {w : World} {b : Nat} {V : Nat → Option Value} (h : MapV w b V) {t e : TypeId} (ht : Tryz.prog.underlying t = some (.map 23 e)) {a : Nat} (ha : a < 1048577) (v : Value) :
    ∃ w', (Instr.mapUpdate t (.map (some b)) (.int .u64 (a : Int)) v).run Tryz.prog w = .ok () w' ∧ MapV w' b (updV V a v) ∧ Chg [b] w w' := by
  obtain ⟨D, ho, hm⟩ := h.own
  obtain ⟨w', hrun, ho', htn⟩ := ho.store ukeyed ht (by unfold maxLen; omega) (keyOf_uk (a := a) (by omega)) (val := v) (d := .held v) (ps := []) rfl
  refine ⟨w', hrun, tightM ho' (hm.put (i := a) ho.isMap (by omega) v) fun j u hj => ?_, (Chg.refl [b] w).grown htn.grown (by simp)⟩
  by_cases e : j = a
  · rw [e]; exact ha
  · have h2 : updV V a v j = V j := if_neg e
    rw [h2] at hj
    exact h.dom j u hj
theorem MapV.made (w : World) : MapV (w.alloc (.map #[] 0)) w.heap.size (fun _ => none) := tightM (World.ownsMap_made w Tryz.prog 23 idR) MapD.empty (fun _ _ h => by cases h)
def ColU (V : Nat → Option Value) (left : Lit → Bool) (ss : List Nat) : Prop := ss.Nodup ∧ ∀ x, x ∈ ss ↔ ((V x).isSome = true ∧ left (uk x) = false)
theorem ColU.start {V : Nat → Option Value} {D : DataW Value} (h : MapD V D) : ColU V (Go.Maps.has D) [] := ⟨List.nodup_nil, fun x => by rw [h.has]; cases (V x).isSome <;> simp⟩
theorem ColU.step {V : Nat → Option Value} {left : Lit → Bool} {ss : List Nat} (h : ColU V left ss) {x : Nat} (hlk : left (uk x) = true) (hV : (V x).isSome = true) : ColU V (fun z => left z && !z.sameKey (uk x)) (ss ++ [x]) := by
  have hnew : x ∉ ss := fun hx => by have := ((h.2 x).1 hx).2; rw [hlk] at this; cases this
  refine ⟨List.nodup_append.2 ⟨h.1, by simp, fun a ha b hb => by simp at hb; subst hb; exact fun e => hnew (e ▸ ha)⟩, fun y => ?_⟩
  by_cases hy : y = x
  · subst hy; simp [hV, Lit.sameKey]
  · have h2 : ¬ ((y : Int) = (x : Int)) := by omega
    simp [h.2 y, hy, Lit.sameKey, h2]
end Go.Proofs.YtcadnlilijkneaaGreat
namespace Go.Proofs.YtcadnlilijkneaaGreat
open Go.RowKit Go.Deep
set_option linter.unusedVariables false
set_option linter.unusedSimpArgs false

end Go.Proofs.YtcadnlilijkneaaGreat
namespace Go.Proofs.YtcadnlilijkneaaGreat
open Go.RowKit Go.Maps Go.Shelf Go.Deep
set_option linter.unusedVariables false
set_option linter.unusedSimpArgs false

theorem MapV.look1 {w : World} {b : Nat} {V : Nat → Option Value} (h : MapV w b V) {t e : TypeId} (ht : Tryz.prog.underlying t = some (.map 23 e)) {z : Value} (hz : (zeroValue e).run Tryz.prog w = .ok z w) {a : Nat} (ha : a < 18446744073709551616) :
    (Instr.lookup t (.map (some b)) (.int .u64 (a : Int)) false).run Tryz.prog w = .ok ((V a).getD z) w := by
  obtain ⟨D, ho, hm⟩ := h.own
  obtain ⟨v, ps, hrun, hv⟩ := ho.lookup ukeyed ht hz (zd := .held z) (zp := []) rfl (keyOf_uk ha)
  have h2 := idR_inv hv
  rw [hrun]
  cases hV : V a with
  | none =>
    have e1 : D.atKey (uk a) (.held z) = .held z := by
      have := hm.none_ a hV
      exact atKey_of_not_has this _
    rw [e1] at h2
    simp at h2
    simp [h2]
  | some u =>
    rw [(hm.some_ a u hV).2] at h2
    simp at h2
    simp [h2]
theorem eqIn_bt (a b a' b' : Int) (w : World) : (Op.equalIn 10000 48 (.agg #[.int .i64 a, .int .i64 b]) (.agg #[.int .i64 a', .int .i64 b'])).run Tryz.prog w = .ok (decide ((a, b) = (a', b'))) w := by
  have g0 : ∀ (x y : Value), (part 3 #[x, y] 0).run Tryz.prog w = .ok x w := fun x y => run_part_cell Tryz.underlying3 rfl w
  have g1 : ∀ (x y : Value), (part 3 #[x, y] 1).run Tryz.prog w = .ok y w := fun x y => run_part_cell Tryz.underlying3 rfl w
  have ge : ∀ (x y : Int), (Op.equalIn 9999 3 (.int .i64 x) (.int .i64 y)).run Tryz.prog w = .ok (x == y) w := fun x y => run_equalIn_int w 9998 3 .i64 .i64 _ _ Tryz.underlying3
  refine (run_equalIn_struct w 9999 48 _ _ (by kernel_rfl) (by kernel_rfl)).trans ?_
  simp [Program.fieldsOf, Tryz.underlying48, Op.eqFields, g0, g1, ge]
  by_cases h1 : a = a'
  · by_cases h2 : b = b' <;> simp [h1, h2]
  · simp [h1]
theorem eq_bt (a b a' b' : Int) (w : World) : (binOp .eql 48 (.agg #[.int .i64 a, .int .i64 b]) (.agg #[.int .i64 a', .int .i64 b'])).run Tryz.prog w = .ok (.bool (decide ((a, b) = (a', b')))) w := by
  rw [run_eql_struct, eqIn_bt]; rfl
theorem ne_bt (a b a' b' : Int) (w : World) : (binOp .neq 48 (.agg #[.int .i64 a, .int .i64 b]) (.agg #[.int .i64 a', .int .i64 b'])).run Tryz.prog w = .ok (.bool (!decide ((a, b) = (a', b')))) w := by
  rw [run_neq_struct, eqIn_bt]; rfl
abbrev btv (b : Bt) : Value := .agg #[.int .i64 b.1, .int .i64 b.2]
theorem aLess_any (a b : Bt) (w : World) : Calls Tryz.prog 46 #[btv a, btv b] w fun e w' => e = .returned (.bool (a.less b)) ∧ Chg [] w w' := by
  obtain ⟨a1, a2⟩ := a
  obtain ⟨b1, b2⟩ := b
  have HC : Hid (Chg [] w ((w.alloc (.cells #[.int .i64 a1, .int .i64 a2] 48)).alloc (.cells #[.int .i64 b1, .int .i64 b2] 48))) := Lib.hid (((Chg.refl [] w).alloc _).alloc _)
  unfold Bt.less
  simp only
  by_cases h : a1 = b1
  · subst h
    have e1 : (a1 != a1) = false := by simp
    have e2 : (decide (a1 < a1) || decide (a1 = a1) && decide (a2 < b2)) = decide (a2 < b2) := by simp
    rw [e2]
    clear e2
    go_enter Tryz.func46, Tryz.ntmps46
    go_wp2_with fail
    go_ret
    exact ⟨rfl, HC.out⟩
  · have e1 : (a1 != b1) = true := by rw [bne_iff_ne]; exact h
    have e2 : (decide (a1 < b1) || decide (a1 = b1) && decide (a2 < b2)) = decide (a1 < b1) := by simp [h]
    rw [e2]
    clear e2 h
    go_enter Tryz.func46, Tryz.ntmps46
    go_wp2_with fail
    go_ret
    exact ⟨rfl, HC.out⟩
theorem isEpoch_any (e : Nat) (w : World) (he : e < 18446744073709551616) : Calls Tryz.prog 94 #[.int .u64 (e : Int)] w fun r w' => r = .returned (.bool (ep0 e)) ∧ w' = w := by
  have e1 : ep0 e = (decide (1 ≤ e) && decide (e ≤ 1048576)) := by unfold ep0; simp
  rw [e1]
  obtain ⟨x1, hx1⟩ : ∃ x, decide (1 ≤ e) = x := ⟨_, rfl⟩
  obtain ⟨x2, hx2⟩ : ∃ x, decide (e ≤ 1048576) = x := ⟨_, rfl⟩
  rw [hx1, hx2]
  have hy1 : decide (1 ≤ (e : Int)) = x1 := by rw [← hx1, decide_eq_decide]; omega
  have hy2 : decide ((e : Int) ≤ 1048576) = x2 := by rw [← hx2, decide_eq_decide]; omega
  clear e1 he
  go_enter Tryz.func94, Tryz.ntmps94
  cases x1 <;> cases x2
  all_goals
    go_wp2_with fail
    go_ret
    exact ⟨rfl, rfl⟩
theorem isBallot_any (b : Bt) (w : World) : Calls Tryz.prog 95 #[btv b] w fun r w' => r = .returned (.bool (btOk b)) ∧ Chg [] w w' := by
  obtain ⟨r, n⟩ := b
  have HB : Hid (Chg [] w (w.alloc (.cells #[.int .i64 r, .int .i64 n] 48))) := Lib.hid ((Chg.refl [] w).alloc _)
  have HN := fun W => ne_bt r n 0 0 W
  unfold btOk
  simp only
  obtain ⟨x0, hx0⟩ : ∃ x, decide ((r, n) = (0, 0)) = x := ⟨_, rfl⟩
  obtain ⟨x1, hx1⟩ : ∃ x, decide (0 ≤ r) = x := ⟨_, rfl⟩
  obtain ⟨x2, hx2⟩ : ∃ x, decide (r ≤ 65535) = x := ⟨_, rfl⟩
  obtain ⟨x3, hx3⟩ : ∃ x, decide (0 ≤ n) = x := ⟨_, rfl⟩
  obtain ⟨x4, hx4⟩ : ∃ x, decide (n < 4) = x := ⟨_, rfl⟩
  rw [hx0] at HN
  rw [hx0, hx1, hx2, hx3, hx4]
  clear hx0
  go_enter Tryz.func95, Tryz.ntmps95
  cases x0 <;> cases x1 <;> cases x2 <;> cases x3 <;> cases x4
  all_goals
    go_wp2_with fail
    go_ret
    exact ⟨rfl, HB.out⟩
theorem isLayout_any (e : Nat) (A : LyT) (B : Nat) (w : World) (h : LyIn w B A) (hB : B ≤ w.heap.size) (hf : SgFit A.sg) : Calls Tryz.prog 98 #[.int .u64 (e : Int), A.val] w fun r w' => r = .returned (.bool (decide (A.e = e) && lright A.x)) ∧ Chg [] w w' := by
  obtain ⟨W, HW⟩ : ∃ W, Hid (w.alloc (.cells #[.int .u64 (A.e : Int), .slice A.a A.sg.length A.c, .int .i64 A.q] 26) = W) := ⟨_, Lib.hid rfl⟩
  have hc : Chg [] w W := by rw [← HW.out]; exact (Chg.refl [] w).alloc _
  have HR := Lib.hid (lright_any A B W (h.below hc.low hB) (Nat.le_trans hB hc.size) hf)
  have HC := Lib.hid hc
  have ho : Own W w.heap.size 26 [.int .u64 (A.e : Int), .slice A.a A.sg.length A.c, .int .i64 A.q] := by rw [← HW.out]; exact Own.new w _ _
  have c0 := ho.cell 0
  have c1 := ho.cell 1
  have c2 := ho.cell 2
  simp at c0 c1 c2
  obtain ⟨t, ht⟩ : ∃ t, lright A.x = t := ⟨_, rfl⟩
  rw [ht] at HR ⊢
  obtain ⟨ae, a, c, L, q⟩ := A
  simp only [LyT.val] at *
  clear h hc ht hf hB ho
  by_cases he : ae = e
  · subst he
    have e1 : ((ae : Int) == (ae : Int)) = true := by simp
    rw [decide_eq_true rfl, Bool.true_and]
    go_enter Tryz.func98, Tryz.ntmps98
    go_upto_region 1 with fail
    rw [HW.out]
    go_wp2_with (first | (go_at_call 58; refine HR.out.mono ?_; rintro r w2 ⟨rfl, hb2⟩) | fail)
    go_ret
    exact ⟨rfl, HC.out.trans (low_chg hb2)⟩
  · have e1 : ((ae : Int) == (e : Int)) = false := by rw [beq_eq_false_iff_ne]; omega
    rw [decide_eq_false he, Bool.false_and]
    clear he
    go_enter Tryz.func98, Tryz.ntmps98
    go_upto_region 1 with fail
    rw [HW.out]
    go_wp2_with fail
    go_ret
    exact ⟨rfl, HC.out⟩
theorem widths4_any (w : World) : Calls Tryz.prog 126 #[] w fun e w' => e = .returned (.slice (some ⟨w.heap.size, 0, none⟩) 4 4) ∧ w' = w.alloc (.cells (i64s wid4).toArray 3) := by
  go_enter Tryz.func126, Tryz.ntmps126
  go_wp2_with fail
  go_ret
  exact ⟨rfl, rfl⟩
end Go.Proofs.YtcadnlilijkneaaGreat
