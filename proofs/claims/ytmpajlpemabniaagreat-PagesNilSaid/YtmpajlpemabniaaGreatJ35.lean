/-
  Maps whose keys are uint64 and whose values are whole values: read, written, made, cloned; which keys a range has given. Plain lemmas, no claim of their own.
-/
import Derived.Test.YtmpajlpemabniaaGreatJ2
import Derived.Test.YtmpajlpemabniaaGreatShelf
import Derived.Maps.RangeWalk
import Derived.Maps.OwnIn
import Derived.Maps.OwnSet
import Derived.Maps.Ext
import Derived.Lib.SlKeysI
import Derived.Sort.AssemblyPlain
import Derived.Sort.WalkC4
import Derived.Sort.WalkA6
import Derived.Sort.WalkB3
import Derived.Sort.WalkD1
import Derived.Sort.Walk7
import Derived.Sort.Walk13
import Derived.BigGuard
import Derived.BigCall
namespace Go.Proofs.YtmpajlpemabniaaGreat
open Go.RowKit Go.Maps Go.Shelf
set_option linter.unusedVariables false
set_option linter.unusedSimpArgs false

/-- the literal of key a -/
abbrev uk (a : Nat) : Lit := .int .u64 (a : Int)
/-- a value reads as itself -/
def idR (v : Value) : Option (DataW Value × List MemPlace) := some (.held v, [])
theorem idR_inv {v : Value} {z : DataW Value × List MemPlace} (h : idR v = some z) : z = (.held v, []) := by simpa [idR, eq_comm] using h
theorem ukeyed : Keyed Tryz.prog 37 := int_keyed Tryz.underlying37
theorem uk_inj {a b : Nat} (h : uk a = uk b) : a = b := by simp only [Lit.int.injEq, true_and] at h; omega
theorem uk_isKey (a : Nat) : WideAt.IsKeyLit (uk a) := by simp [WideAt.IsKeyLit]
theorem keyOf_uk {a : Nat} (h : a < 18446744073709551616) : keyOf Tryz.prog 37 (.int .u64 (a : Int)) = some (uk a) := keyOf_int_mk Tryz.underlying37 (WalkArith.wf_u64 (by omega))
theorem keyOf_u64 {key : Value} {kl : Lit} (h : keyOf Tryz.prog 37 key = some kl) : ∃ a : Nat, a < 18446744073709551616 ∧ key = .int .u64 (a : Int) ∧ kl = uk a := by
  obtain ⟨x, rfl, rfl, hw⟩ := Maps.keyOf_int_inv Tryz.underlying37 h
  have h2 : 0 ≤ x ∧ x ≤ 18446744073709551615 := by
    simp [Lit.wf, IntKind.min, IntKind.max, IntKind.signed, IntKind.bits] at hw
    omega
  obtain ⟨a, rfl⟩ : ∃ a : Nat, x = (a : Int) := ⟨x.toNat, by omega⟩
  exact ⟨a, by omega, rfl, rfl⟩
/-- the datum of the map V -/
structure MapD (V : Nat → Option Value) (D : DataW Value) : Prop where
  some_ : ∀ a v, V a = some v → has D (uk a) = true ∧ ∀ z, D.atKey (uk a) z = .held v
  none_ : ∀ a, V a = none → has D (uk a) = false
  keys : ∀ kl, has D kl = true → ∃ a, a < 18446744073709551616 ∧ kl = uk a
theorem MapD.has {V : Nat → Option Value} {D : DataW Value} (h : MapD V D) (a : Nat) : Go.Maps.has D (uk a) = (V a).isSome := by
  cases hV : V a with
  | none => exact h.none_ a hV
  | some v => exact (h.some_ a v hV).1
def updV (V : Nat → Option Value) (a : Nat) (v : Value) : Nat → Option Value := fun x => if x = a then some v else V x
theorem MapD.empty : MapD (fun _ => none) (.map []) := ⟨fun _ _ h => (by cases h), fun _ _ => rfl, fun kl h => by simp [Go.Maps.has] at h⟩
theorem MapD.put {V : Nat → Option Value} {D : DataW Value} (h : MapD V D) (hD : IsMap D) {i : Nat} (hi : i < 18446744073709551616) (v : Value) : MapD (updV V i v) (D.put (uk i) (.held v)) := by
  have hne : ∀ j, j ≠ i → uk j ≠ uk i := fun j hj e => hj (uk_inj e)
  refine ⟨fun j u hj => ?_, fun j hj => ?_, fun kl hkl => ?_⟩
  · by_cases e : j = i
    · subst e
      simp only [updV, if_true, Option.some.injEq] at hj
      subst hj
      exact ⟨has_put_same hD (uk_isKey j) _, fun z => atKey_put_same hD (uk_isKey j) _ z⟩
    · simp only [updV, if_neg e] at hj
      obtain ⟨h1, h2⟩ := h.some_ j u hj
      exact ⟨by rw [has_put_other (hne j e)]; exact h1, fun z => by rw [atKey_put_other (hne j e)]; exact h2 z⟩
  · by_cases e : j = i
    · subst e
      simp [updV] at hj
    · simp only [updV, if_neg e] at hj
      rw [has_put_other (hne j e)]
      exact h.none_ j hj
  · by_cases e : kl = uk i
    · exact ⟨i, hi, e⟩
    · rw [has_put_other e] at hkl
      exact h.keys kl hkl
/-- numbers without repeats below N are N at most -/
theorem nodup_le {l : List Nat} (h : l.Nodup) {N : Nat} (hN : ∀ x ∈ l, x < N) : l.length ≤ N := by
  have hp : l.Perm ((List.range N).filter fun x => decide (x ∈ l)) := (List.perm_ext_iff_of_nodup h (List.nodup_range.filter _)).2 fun x => by
    simp only [List.mem_filter, List.mem_range, decide_eq_true_eq]
    exact ⟨fun hx => ⟨hN x hx, hx⟩, fun hx => hx.2⟩
  rw [hp.length_eq]
  have := List.length_filter_le (fun x => decide (x ∈ l)) (List.range N)
  simpa using this
/-- a map in block b -/
structure MapV (w : World) (b : Nat) (V : Nat → Option Value) : Prop where
  own : ∃ D, w.ownsMap Tryz.prog 37 idR b 1048576 D ∧ MapD V D
  dom : ∀ a v, V a = some v → a < 1048576
theorem MapV.lt {w : World} {b : Nat} {V : Nat → Option Value} (h : MapV w b V) : b < w.heap.size := by obtain ⟨D, h1, _⟩ := h.own; exact h1.lt
theorem owns_block {w w' : World} {b n : Nat} {D : DataW Value} (h : w.ownsMap Tryz.prog 37 idR b n D) (hb : w'.heap[b]? = w.heap[b]?) : w'.ownsMap Tryz.prog 37 idR b n D := by
  obtain ⟨es, clock, h1, h2⟩ := h
  exact ⟨es, clock, hb.trans h1, h2⟩
theorem MapV.chg {l : List Nat} {w w' : World} {b : Nat} {V : Nat → Option Value} (h : MapV w b V) (hc : Chg l w w') (hb : b ∉ l) : MapV w' b V := by
  obtain ⟨D, h1, h2⟩ := h.own
  exact ⟨⟨D, owns_block h1 (hc.block b h1.lt hb), h2⟩, h.dom⟩
theorem MapV.kept {w w' : World} {b : Nat} {V : Nat → Option Value} (h : MapV w b V) (hc : Chg [] w w') : MapV w' b V := h.chg hc (by simp)
theorem tightM {w : World} {b n : Nat} {V : Nat → Option Value} {D : DataW Value} (h : w.ownsMap Tryz.prog 37 idR b n D) (hm : MapD V D) (hd : ∀ a v, V a = some v → a < 1048576) : MapV w b V := by
  refine ⟨⟨D, ?_, hm⟩, hd⟩
  obtain ⟨es, hD, hpw, hk⟩ := h.entries ukeyed
  obtain ⟨es0, clock, hb, F, hn, hD0⟩ := h
  refine ⟨es0, clock, hb, F, ?_, hD0⟩
  have e1 : es0.size = es.length := by
    rw [hD] at hD0
    have := DataW.map.inj hD0
    rw [this, length_sorted]
    simp
  rw [e1]
  subst hD
  have hx : ∀ p ∈ es, ∃ a, a < 18446744073709551616 ∧ p.1 = uk a := fun p hp => hm.keys p.1 (List.any_eq_true.2 ⟨p, hp, WideAt.sameKey_self (hk p hp)⟩)
  let f : Lit × DataW Value → Nat := fun p => match p.1 with | .int _ x => x.toNat | _ => 0
  have hf : ∀ p ∈ es, p.1 = uk (f p) := fun p hp => by
    obtain ⟨a, _, ha⟩ := hx p hp
    show p.1 = uk (match p.1 with | .int _ x => x.toNat | _ => 0)
    rw [ha]
    simp
  have hnd : (es.map f).Nodup := List.pairwise_map.2 (hpw.imp_of_mem fun {p q} hp hq hne e => hne (by rw [hf p hp, hf q hq, e]))
  have := nodup_le hnd (N := 1048576) fun x hx2 => by
    obtain ⟨p, hp, rfl⟩ := List.mem_map.1 hx2
    have h2 : Go.Maps.has (.map es) (uk (f p)) = true := by rw [← hf p hp]; exact List.any_eq_true.2 ⟨p, hp, WideAt.sameKey_self (hk p hp)⟩
    rw [hm.has] at h2
    obtain ⟨v, hv⟩ := Option.isSome_iff_exists.1 h2
    exact hd _ v hv
  simpa using this
/-- lookup, with ok -/
theorem MapV.look {w : World} {b : Nat} {V : Nat → Option Value} (h : MapV w b V) {t e : TypeId} (ht : Tryz.prog.underlying t = some (.map 37 e)) {z : Value} (hz : (zeroValue e).run Tryz.prog w = .ok z w) {a : Nat} (ha : a < 18446744073709551616) :
    (Instr.lookup t (.map (some b)) (.int .u64 (a : Int)) true).run Tryz.prog w = .ok (.tuple #[(V a).getD z, .bool (V a).isSome]) w := by
  obtain ⟨D, ho, hm⟩ := h.own
  obtain ⟨v, ps, hrun, hv⟩ := ho.look_ok ukeyed ht hz (zd := .held z) (zp := []) rfl (keyOf_uk ha)
  have h2 := idR_inv hv
  rw [hrun, hm.has]
  cases hV : V a with
  | none =>
    have e1 : D.atKey (uk a) (.held z) = .held z := by
      have := hm.none_ a hV
      exact atKey_of_not_has this _
    rw [e1] at h2
    simp at h2
    simp [h2]
  | some u =>
    rw [(hm.some_ a u hV).2] at h2
    simp at h2
    simp [h2]
/-- m[a] = v -/
theorem MapV.put {w : World} {b : Nat} {V : Nat → Option Value} (h : MapV w b V) {t e : TypeId} (ht : Tryz.prog.underlying t = some (.map 37 e)) {a : Nat} (ha : a < 1048576) (v : Value) :
    ∃ w', (Instr.mapUpdate t (.map (some b)) (.int .u64 (a : Int)) v).run Tryz.prog w = .ok () w' ∧ MapV w' b (updV V a v) ∧ Chg [b] w w' := by
  obtain ⟨D, ho, hm⟩ := h.own
  obtain ⟨w', hrun, ho', htn⟩ := ho.store ukeyed ht (by unfold maxLen; omega) (keyOf_uk (a := a) (by omega)) (val := v) (d := .held v) (ps := []) rfl
  refine ⟨w', hrun, tightM ho' (hm.put (i := a) ho.isMap (by omega) v) fun j u hj => ?_, (Chg.refl [b] w).grown htn.grown (by simp)⟩
  by_cases e : j = a
  · rw [e]; exact ha
  · have h2 : updV V a v j = V j := if_neg e
    rw [h2] at hj
    exact h.dom j u hj
theorem MapV.made (w : World) : MapV (w.alloc (.map #[] 0)) w.heap.size (fun _ => none) := tightM (World.ownsMap_made w Tryz.prog 37 idR) MapD.empty (fun _ _ h => by cases h)
/-- which keys have come -/
def ColU (V : Nat → Option Value) (left : Lit → Bool) (ss : List Nat) : Prop := ss.Nodup ∧ ∀ x, x ∈ ss ↔ ((V x).isSome = true ∧ left (uk x) = false)
theorem ColU.start {V : Nat → Option Value} {D : DataW Value} (h : MapD V D) : ColU V (Go.Maps.has D) [] := ⟨List.nodup_nil, fun x => by rw [h.has]; cases (V x).isSome <;> simp⟩
theorem ColU.step {V : Nat → Option Value} {left : Lit → Bool} {ss : List Nat} (h : ColU V left ss) {x : Nat} (hlk : left (uk x) = true) (hV : (V x).isSome = true) : ColU V (fun z => left z && !z.sameKey (uk x)) (ss ++ [x]) := by
  have hnew : x ∉ ss := fun hx => by have := ((h.2 x).1 hx).2; rw [hlk] at this; cases this
  refine ⟨List.nodup_append.2 ⟨h.1, by simp, fun a ha b hb => by simp at hb; subst hb; exact fun e => hnew (e ▸ ha)⟩, fun y => ?_⟩
  by_cases hy : y = x
  · subst hy; simp [hV, Lit.sameKey]
  · have h2 : ¬ ((y : Int) = (x : Int)) := by omega
    simp [h.2 y, hy, Lit.sameKey, h2]
end Go.Proofs.YtmpajlpemabniaaGreat
namespace Go.Proofs.YtmpajlpemabniaaGreat
open Go.RowKit Go.Sort
set_option linter.unusedVariables false
set_option linter.unusedSimpArgs false

/-- numbers as cells -/
def us (d : Array Int) : List Value := d.toList.map (Value.int .u64)
@[simp] theorem us_len (d : Array Int) : (us d).length = d.size := by simp [us]
/-- a block of one's own that begins with the numbers d -/
def Uw (w : World) (g : Nat) (d : Array Int) (z : List Value) : Prop := Own w g 37 (us d ++ z)
theorem us_get (d : Array Int) (z : List Value) (i : Nat) (h : i < d.size) : (us d ++ z)[i]? = some (.int .u64 d[i]!) := by
  rw [List.getElem?_append_left (by simpa using h)]
  simp [us, h]
theorem Uw.cell {w : World} {g : Nat} {d : Array Int} {z : List Value} (h : Uw w g d z) (i : Nat) (hi : i < d.size) : w.cell? ⟨g, i, none⟩ = some (.int .u64 d[i]!) := by
  rw [Own.cell h i, us_get d z i hi]
theorem us_set (d : Array Int) (i : Nat) (x : Int) : us (d.setIfInBounds i x) = (us d).set i (.int .u64 x) := by
  simp [us, List.map_set]
theorem Uw.set {w : World} {g : Nat} {d : Array Int} {z : List Value} (h : Uw w g d z) (i : Nat) (hi : i < d.size) (x : Int) : Uw (w.setCell ⟨g, i, none⟩ (.int .u64 x)) g (d.setIfInBounds i x) z := by
  have h1 := Own.set h i (.int .u64 x)
  unfold Uw
  rw [us_set, ← List.set_append_left _ _ (by simpa using hi)]
  exact h1
theorem Uw.swap {w : World} {g : Nat} {d : Array Int} {z : List Value} (h : Uw w g d z) (i j : Nat) (hi : i < d.size) (hj : j < d.size) : Uw ((w.setCell ⟨g, i, none⟩ (.int .u64 d[j]!)).setCell ⟨g, j, none⟩ (.int .u64 d[i]!)) g (swp d i j) z :=
  (h.set i hi _).set j (by simpa using hj) _
theorem Uw.qt {w w' : World} {g : Nat} {d : Array Int} {z : List Value} (h : Uw w g d z) (k : Qt w w') : Uw w' g d z := Own.qt h k
/-- what a sorting call keeps: the row is d, and only its block has turned -/
def Sd (w : World) (g : Nat) (d : Array Int) (z : List Value) (w' : World) : Prop := Uw w' g d z ∧ Chg [g] w w'
theorem Sd.refl {w : World} {g : Nat} {d : Array Int} {z : List Value} (h : Uw w g d z) : Sd w g d z w := ⟨h, Chg.refl _ _⟩
theorem Sd.qt {w w' w'' : World} {g : Nat} {d : Array Int} {z : List Value} (h : Sd w g d z w') (k : Qt w' w'') : Sd w g d z w'' := ⟨h.1.qt k, h.2.qt k⟩
theorem Sd.drewN {w w' : World} {g : Nat} {d : Array Int} {z : List Value} (h : Sd w g d z w') (n : Nat) : Sd w g d z (w'.drewN n) := h.qt ⟨n, rfl⟩
theorem Sd.drew {w w' : World} {g : Nat} {d : Array Int} {z : List Value} (h : Sd w g d z w') : Sd w g d z w'.drew := h.qt ⟨1, rfl⟩
theorem Sd.then {w w' w'' : World} {g : Nat} {d d' : Array Int} {z : List Value} (h : Sd w g d z w') (k : Sd w' g d' z w'') : Sd w g d' z w'' := ⟨k.1, h.2.trans k.2⟩
theorem Sd.swap {w w' : World} {g : Nat} {d : Array Int} {z : List Value} (h : Sd w g d z w') (i j : Nat) (hi : i < d.size) (hj : j < d.size) {x y : Int} (hx : d[i]! = x) (hy : d[j]! = y) :
    Sd w g (swp d i j) z ((w'.setCell ⟨g, i, none⟩ (.int .u64 y)).setCell ⟨g, j, none⟩ (.int .u64 x)) := by
  subst hx hy
  exact ⟨h.1.swap i j hi hj, (h.2.setCell (.inl (by simp)) _).setCell (.inl (by simp)) _⟩

theorem isNaN_any (x : Int) (w : World) : Calls Tryz.prog 271 #[.int .u64 x] w fun e w' => e = .returned (.bool false) ∧ w' = w := by
  go_enter Tryz.func271, Tryz.ntmps271
  go_wp2
  go_ret
  exact ⟨by simp, rfl⟩
theorem Less_any (x y : Int) (w : World) : Calls Tryz.prog 257 #[.int .u64 x, .int .u64 y] w fun e w' => e = .returned (.bool (ltInt x y)) ∧ w' = w := by
  go_enter Tryz.func257, Tryz.ntmps257
  go_wp2_with (first | (go_at_call 271; refine (isNaN_any _ _).mono ?_; rintro e w' ⟨rfl, rfl⟩) | fail)
  all_goals (go_ret; exact ⟨by simp [ltInt], rfl⟩)
end Go.Proofs.YtmpajlpemabniaaGreat
