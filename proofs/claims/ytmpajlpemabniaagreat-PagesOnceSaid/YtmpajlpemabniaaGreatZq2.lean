/-
  What a cell that came in is. Plain lemmas, no claim of their own.
-/
import Derived.Deep.Grids
import Derived.Deep.Fields
import Derived.Lib.SmallJoins
import Derived.Test.YtmpajlpemabniaaGreatZq1
import Derived.Deep.MidRow
import Derived.Maps.RangeWalk
import Derived.Maps.OwnSet
import Derived.Maps.Ext
import Derived.Lib.SlKeysI
import Derived.Carry
import Derived.Laws.MakeOwn
import Derived.Laws.StructEq
import Derived.Deep.RegionHeld3
import Derived.Deep.DrawnRows
import Derived.StillTailTactics
import Derived.Laws.CopyOwn
namespace Go.Proofs.YtmpajlpemabniaaGreat
open Go.RowKit Go.ChangeShapes Go.WideShapes Go.Deep
set_option linter.unusedVariables false
set_option linter.unusedSimpArgs false
section
variable {H : Type} {enc : TypeId × Value → H} {w : World} {base : Nat} {held : Bool}
theorem row_u8 {n : Nat} {v : Value} {y : DataW H × List MemPlace} (h : DataW.trod enc Tryz.prog w base (fun _ => true) held n 39 [v] = some y) :
    ∃ (a : Option Addr) (bs : List UInt8) (c : Nat), v = .slice a bs.length c ∧ Ro w w.heap.size a (u8s bs) ∧ bs.length ≤ c ∧ c ≤ 9223372036854775807 := by
  have hrow : ∃ a l c zs, v = .slice a l c ∧ IsRow .u8 w a l c zs := by
    rcases open_ints Tryz.underlying39 Tryz.underlying5 (by kernel_rfl) h with ⟨hc, _⟩ | ⟨a, l, c, zs, hc, _, hl, hm, hz, _, hcell, hwz⟩
    · exact ⟨none, 0, 0, [], by simpa using hc, .inl ⟨rfl, rfl, rfl, rfl⟩⟩
    · exact ⟨some a, l, c, zs, by simpa using hc, .inr ⟨a, rfl, hl, hm, by simpa using hz, hcell, hwz⟩⟩
  obtain ⟨a, l, c, zs, rfl, hr⟩ := hrow
  obtain ⟨bs, h1, h2, h3, h4⟩ := hr.u8s
  have := hr.cap_le
  exact ⟨a, bs, c, by rw [h1], h4, by omega, by omega⟩
set_option maxRecDepth 100000 in
theorem trod_back {n : Nat} {cs : List Value} {y : DataW H × List MemPlace} (h : DataW.trod enc Tryz.prog w base (fun _ => true) held n 143 cs = some y) :
    ∃ b : Bk, cs = [.int .i64 b.1, .int .u64 (b.2.1 : Int), .int .u64 (b.2.2 : Int)] ∧ FitB b := by
  obtain ⟨xs, m, _, _, hlen, hxl, hf⟩ := DataW.trod_struct Tryz.underlying143 h
  have hc3 : cs.length = 3 := hlen.trans (by kernel_rfl)
  match cs, hc3, xs, hxl with
  | [c0, c1, c2], _, [x0, x1], _ =>
    have g0 : DataW.trod enc Tryz.prog w base (fun _ => true) held m 3 (([c0, c1, c2].drop 0).take (Tryz.prog.cellsOf 3)) = some x0 := hf 0 _ rfl
    have g1 : DataW.trod enc Tryz.prog w base (fun _ => true) held m 141 (([c0, c1, c2].drop 1).take (Tryz.prog.cellsOf 141)) = some x1 := hf 1 _ rfl
    rw [show Tryz.prog.cellsOf 3 = 1 by kernel_rfl] at g0
    rw [show Tryz.prog.cellsOf 141 = 2 by kernel_rfl] at g1
    simp only [List.drop_zero, List.drop_succ_cons, List.take_succ_cons, List.take_zero] at g0 g1
    obtain ⟨s, e0, _, hw0⟩ := DataW.trod_int Tryz.underlying3 g0
    have hu : Tryz.prog.underlying 141 = some (.array 2 37) := by kernel_rfl
    obtain ⟨ys, m2, _, _, _, hl, hi⟩ := DataW.trod_array hu g1
    have hce : Tryz.prog.cellsOf 37 = 1 := by kernel_rfl
    have i0 := hi 0 (by omega)
    have i1 := hi 1 (by omega)
    rw [hce, Nat.mul_one, List.getElem?_eq_getElem (by omega)] at i0 i1
    simp only [List.drop_zero, List.drop_succ_cons, List.take_succ_cons, List.take_zero] at i0 i1
    obtain ⟨p, e1, _, hw1⟩ := DataW.trod_int Tryz.underlying37 i0
    obtain ⟨q, e2, _, hw2⟩ := DataW.trod_int Tryz.underlying37 i1
    simp only [List.cons.injEq, and_true] at e0 e1 e2
    subst e0 e1 e2
    have h0 := bounds_i64 hw0
    have h1 := bounds_u64 hw1
    have h2 := bounds_u64 hw2
    refine ⟨(s, p.toNat, q.toNat), ?_, ⟨h0.1, h0.2, ?_, ?_⟩⟩
    · simp only
      rw [show ((p.toNat : Nat) : Int) = p by omega, show ((q.toNat : Nat) : Int) = q by omega]
    · show p.toNat ≤ _; omega
    · show q.toNat ≤ _; omega
set_option maxRecDepth 100000 in
theorem row_backs {n : Nat} {v : Value} {y : DataW H × List MemPlace} (h : DataW.trod enc Tryz.prog w base (fun _ => true) held n 40 [v] = some y) :
    ∃ (a : Option Addr) (L : List Bk) (c : Nat), v = .slice a L.length c ∧ Ro w w.heap.size a (bcs L) ∧ (∀ b ∈ L, FitB b) ∧ L.length ≤ 9223372036854775807 := by
  rcases open_slice Tryz.underlying40 h with ⟨hc, _⟩ | ⟨a, len, cap, m, k, D, Pl, hc, _, hl, hm, hmm, _, hi⟩
  · exact ⟨none, [], 0, by simpa using hc, Ro.nil _ _ _, by simp, by simp⟩
  · have hc2 : Tryz.prog.cellsOf 143 = 3 := by kernel_rfl
    simp only [if_true] at hmm
    subst hmm
    have hall : ∀ i, i < m → ∃ b : Bk, FitB b ∧ w.cell? (a.add (i * 3)) = some (.int .i64 b.1) ∧ w.cell? ((a.add (i * 3)).add 1) = some (.int .u64 (b.2.1 : Int)) ∧ w.cell? ((a.add (i * 3)).add 2) = some (.int .u64 (b.2.2 : Int)) := by
      intro i him
      obtain ⟨cs, h1, h2⟩ := hi i him
      rw [hc2] at h1
      obtain ⟨_, _, h3⟩ := World.cells?_some h1
      obtain ⟨r, rfl, hr⟩ := trod_back h2
      refine ⟨r, hr, ?_, h3 1 (by omega), h3 2 (by omega)⟩
      have := h3 0 (by omega)
      simpa [Addr.add] using this
    obtain ⟨A, hA⟩ : ∃ A : Nat → Bk, ∀ i, i < m → FitB (A i) ∧ w.cell? (a.add (i * 3)) = some (.int .i64 (A i).1) ∧ w.cell? ((a.add (i * 3)).add 1) = some (.int .u64 ((A i).2.1 : Int)) ∧ w.cell? ((a.add (i * 3)).add 2) = some (.int .u64 ((A i).2.2 : Int)) :=
      ⟨fun i => if hi : i < m then Classical.choose (hall i hi) else (0, 0, 0), fun i him => by
        have := Classical.choose_spec (hall i him)
        dsimp only
        rw [dif_pos him]
        exact this⟩
    refine ⟨some a, (List.range len).map A, m, by simpa using hc, ?_, fun r hr => ?_, by simp; unfold maxLen at hm; omega⟩
    · rcases Nat.eq_zero_or_pos len with h0 | h0
      · subst h0; exact .inl rfl
      · obtain ⟨b, off, spot⟩ := a
        have hc0 := (hA 0 (by omega)).2.1
        have hspot : spot = none := by simpa [Addr.add] using World.cell?_spot hc0
        subst hspot
        have hb := World.block_lt_of_cell? w _ hc0
        refine .inr ⟨b, off, rfl, by simpa [add_off] using hb, fun i hi => ?_⟩
        rw [bcs_length, List.length_map, List.length_range] at hi
        have hel : ∀ t, t < len → bk ((List.range len).map A) t = A t := fun t ht => by simp [bk, List.getD, ht]
        have hi2 : i / 3 < len := by omega
        obtain ⟨_, g1, g2, g3⟩ := hA (i / 3) (by omega)
        have e := bcs_bk (L := (List.range len).map A) (i := i / 3) (by simpa using hi2)
        rw [hel _ hi2] at e
        have hp : i % 3 = 0 ∨ i % 3 = 1 ∨ i % 3 = 2 := by omega
        rcases hp with hp | hp | hp
        · have ei : i = i / 3 * 3 := by omega
          rw [ei, e.1]
          rw [add_off] at g1
          exact g1
        · have ei : i = i / 3 * 3 + 1 := by omega
          rw [ei, e.2.1]
          rw [add_off, add_off] at g2
          exact g2
        · have ei : i = i / 3 * 3 + 2 := by omega
          rw [ei, e.2.2]
          rw [add_off, add_off] at g3
          exact g3
    · rw [List.mem_map] at hr
      obtain ⟨i, hi, rfl⟩ := hr
      exact (hA i (by have := List.mem_range.1 hi; omega)).1
structure CeT where
  x : Ce
  a : Option Addr
  c : Nat
  a2 : Option Addr
  c2 : Nat
structure CeOk (w : World) (A : CeT) : Prop where
  k : -9223372036854775808 ≤ A.x.k ∧ A.x.k ≤ 9223372036854775807
  d : Ro w w.heap.size A.a (u8s A.x.d)
  dl : A.x.d.length ≤ 9223372036854775807
  b : Ro w w.heap.size A.a2 (bcs A.x.b)
  bl : A.x.b.length ≤ 9223372036854775807
  fit : ∀ b ∈ A.x.b, FitB b
def CeT.val (A : CeT) : Value := cev A.x.k A.a A.x.d.length A.c A.a2 A.x.b.length A.c2
set_option maxRecDepth 100000 in
theorem trod_cell {n : Nat} {cs : List Value} {y : DataW H × List MemPlace} (h : DataW.trod enc Tryz.prog w base (fun _ => true) held n 42 cs = some y) :
    ∃ A : CeT, cs = [.int .i64 A.x.k, .slice A.a A.x.d.length A.c, .slice A.a2 A.x.b.length A.c2] ∧ CeOk w A := by
  obtain ⟨xs, m, _, _, hlen, hxl, hf⟩ := DataW.trod_struct Tryz.underlying42 h
  have hc3 : cs.length = 3 := hlen.trans (by kernel_rfl)
  match cs, hc3, xs, hxl with
  | [c0, c1, c2], _, [x0, x1, x2], _ =>
    have g0 : DataW.trod enc Tryz.prog w base (fun _ => true) held m 38 (([c0, c1, c2].drop 0).take (Tryz.prog.cellsOf 38)) = some x0 := hf 0 _ rfl
    have g1 : DataW.trod enc Tryz.prog w base (fun _ => true) held m 39 (([c0, c1, c2].drop 1).take (Tryz.prog.cellsOf 39)) = some x1 := hf 1 _ rfl
    have g2 : DataW.trod enc Tryz.prog w base (fun _ => true) held m 40 (([c0, c1, c2].drop 2).take (Tryz.prog.cellsOf 40)) = some x2 := hf 2 _ rfl
    rw [show Tryz.prog.cellsOf 38 = 1 by kernel_rfl] at g0
    rw [show Tryz.prog.cellsOf 39 = 1 by kernel_rfl] at g1
    rw [show Tryz.prog.cellsOf 40 = 1 by kernel_rfl] at g2
    simp only [List.drop_zero, List.drop_succ_cons, List.take_succ_cons, List.take_zero] at g0 g1 g2
    obtain ⟨k, e0, _, hw0⟩ := DataW.trod_int Tryz.underlying38 g0
    obtain ⟨a, bs, c, e1, h1, h1', h1''⟩ := row_u8 g1
    obtain ⟨a2, L, c2', e2, h2, h2', h2''⟩ := row_backs g2
    simp only [List.cons.injEq, and_true] at e0
    subst e0 e1 e2
    exact ⟨⟨⟨k, bs, L⟩, a, c, a2, c2'⟩, rfl, ⟨bounds_i64 hw0, h1, by show bs.length ≤ _; omega, h2, h2'', h2'⟩⟩
end
end Go.Proofs.YtmpajlpemabniaaGreat
namespace Go.Proofs.YtmpajlpemabniaaGreat
set_option linter.unusedVariables false
set_option linter.unusedSimpArgs false
open Go.RowKit Go.Maps
abbrev Sec := List UInt8
def zsec : Sec := List.replicate 64 0
theorem zsec_len : zsec.length = 64 := by simp [zsec]
abbrev sv (S : Sec) : Value := .agg (u8s S).toArray
theorem u8s_one (S : Sec) : ∀ v ∈ u8s S, v.oneCell' = true := by
  intro v hv
  simp only [u8s, List.mem_map] at hv
  obtain ⟨x, _, rfl⟩ := hv
  rfl
theorem u8s_inj {S T : Sec} (h : u8s S = u8s T) : S = T := by
  unfold u8s at h
  refine List.map_inj_right (fun x y e => ?_) |>.1 h
  simp only [Value.int.injEq, true_and] at e
  exact UInt8.toNat_inj.1 (by omega)
theorem sv_inj {S T : Sec} (h : sv S = sv T) : S = T := by
  unfold sv at h
  simp only [Value.agg.injEq] at h
  exact u8s_inj (by simpa using h)
def secD (S : Sec) : DataW Unit := .agg (S.map fun x => .lit (.int .u8 (x.toNat : Int)))
theorem secD_inj {S T : Sec} (h : secD S = secD T) : S = T := by
  unfold secD at h
  simp only [DataW.agg.injEq] at h
  refine List.map_inj_right (fun x y e => ?_) |>.1 h
  simp only [DataW.lit.injEq, Lit.int.injEq, true_and] at e
  exact UInt8.toNat_inj.1 (by omega)
open Classical in
noncomputable def secR (v : Value) : Option (DataW Unit × List MemPlace) :=
  if h : ∃ S : Sec, S.length = 64 ∧ v = sv S then some (secD (Classical.choose h), []) else none
theorem secR_sv {S : Sec} (h : S.length = 64) : secR (sv S) = some (secD S, []) := by
  unfold secR
  have hx : ∃ T : Sec, T.length = 64 ∧ sv S = sv T := ⟨S, h, rfl⟩
  rw [dif_pos hx]
  have := Classical.choose_spec hx
  rw [← sv_inj this.2]
theorem secR_inv {v : Value} {z : DataW Unit × List MemPlace} (h : secR v = some z) : ∃ S : Sec, S.length = 64 ∧ v = sv S ∧ z = (secD S, []) := by
  unfold secR at h
  split at h
  · rename_i hx
    cases h
    have := Classical.choose_spec hx
    exact ⟨_, this.1, this.2, rfl⟩
  · cases h
def ik (i : Nat) : Lit := .int .i64 (i : Int)
theorem ik_inj {i j : Nat} (h : ik i = ik j) : i = j := by
  simp only [ik, Lit.int.injEq, true_and] at h
  omega
theorem ik_isKey (i : Nat) : WideAt.IsKeyLit (ik i) := by simp [ik, WideAt.IsKeyLit]
structure MapOf (m : Nat → Option Sec) (D : DataW Unit) : Prop where
  some_ : ∀ i S, m i = some S → has D (ik i) = true ∧ ∀ z, D.atKey (ik i) z = secD S
  none_ : ∀ i, m i = none → has D (ik i) = false
  keys : ∀ kl, has D kl = true → ∃ i, kl = ik i
def upd (m : Nat → Option Sec) (i : Nat) (S : Sec) : Nat → Option Sec := fun j => if j = i then some S else m j
def now (F : Nat → Sec) (m : Nat → Option Sec) (i : Nat) : Sec := (m i).getD (F i)
theorem MapOf.empty : MapOf (fun _ => none) (.map []) := ⟨fun _ _ h => (by cases h), fun _ _ => rfl, fun kl h => by simp [has] at h⟩
theorem MapOf.put {m : Nat → Option Sec} {D : DataW Unit} (h : MapOf m D) (hD : IsMap D) (i : Nat) (S : Sec) : MapOf (upd m i S) (D.put (ik i) (secD S)) := by
  have hne : ∀ j, j ≠ i → ik j ≠ ik i := fun j hj e => hj (ik_inj e)
  refine ⟨fun j T hj => ?_, fun j hj => ?_, fun kl hkl => ?_⟩
  · by_cases e : j = i
    · subst e
      simp only [upd, if_true, Option.some.injEq] at hj
      subst hj
      exact ⟨has_put_same hD (ik_isKey j) _, fun z => atKey_put_same hD (ik_isKey j) _ z⟩
    · simp only [upd, if_neg e] at hj
      obtain ⟨h1, h2⟩ := h.some_ j T hj
      exact ⟨by rw [has_put_other (hne j e)]; exact h1, fun z => by rw [atKey_put_other (hne j e)]; exact h2 z⟩
  · by_cases e : j = i
    · subst e
      simp [upd] at hj
    · simp only [upd, if_neg e] at hj
      rw [has_put_other (hne j e)]
      exact h.none_ j hj
  · by_cases e : kl = ik i
    · exact ⟨i, e⟩
    · rw [has_put_other e] at hkl
      exact h.keys kl hkl
def dirtyL (n : Nat) (m : Nat → Option Sec) : List Nat := (List.range n).filter fun i => (m i).isSome
theorem dirtyL_le (n : Nat) (m : Nat → Option Sec) : (dirtyL n m).length ≤ n := by
  have := List.length_filter_le (fun i => (m i).isSome) (List.range n)
  simpa [dirtyL] using this
theorem dirtyL_nodup (n : Nat) (m : Nat → Option Sec) : (dirtyL n m).Nodup := List.nodup_range.filter _
theorem mem_dirtyL {n : Nat} {m : Nat → Option Sec} {i : Nat} : i ∈ dirtyL n m ↔ i < n ∧ (m i).isSome = true := by simp [dirtyL]
def dirtyZ (n : Nat) (m : Nat → Option Sec) : List Int := (dirtyL n m).map fun (i : Nat) => (i : Int)
theorem keys_perm {m : Nat → Option Sec} {D : DataW Unit} {n : Nat} (h : MapOf m D) (hm : ∀ i S, m i = some S → i < n) (hT : ∃ es, D = .map es ∧ es.Pairwise (fun p q => p.1 ≠ q.1) ∧ ∀ p ∈ es, WideAt.IsKeyLit p.1) : (dirtyZ n m).Perm (intKeys D) := by
  obtain ⟨es, rfl, hpw, hk⟩ := hT
  refine perm_intKeys hpw (fun p hp => ?_) ?_ (fun x => ?_)
  · obtain ⟨i, hi⟩ := h.keys p.1 (List.any_eq_true.2 ⟨p, hp, WideAt.sameKey_self (hk p hp)⟩)
    exact ⟨i, hi⟩
  · exact List.Pairwise.map _ (fun a b (hab : a ≠ b) e => hab (by omega)) (dirtyL_nodup n m)
  · simp only [dirtyZ, List.mem_map]
    constructor
    · rintro ⟨i, hi, rfl⟩
      obtain ⟨_, h2⟩ := mem_dirtyL.1 hi
      obtain ⟨S, hS⟩ := Option.isSome_iff_exists.1 h2
      exact (h.some_ i S hS).1
    · intro hx
      obtain ⟨i, hi⟩ := h.keys _ hx
      have e : x = (i : Int) := by simpa [ik] using hi
      subst e
      refine ⟨i, mem_dirtyL.2 ?_, rfl⟩
      cases hS : m i with
      | none => have := h.none_ i hS; rw [ik] at this; rw [this] at hx; cases hx
      | some S => exact ⟨hm i S hS, rfl⟩
theorem dirtyZ_sorted (n : Nat) (m : Nat → Option Sec) : (dirtyZ n m).Pairwise (fun a b => leI a b = true) := by
  refine List.Pairwise.map _ (fun a b (hab : a < b) => ?_) (List.Pairwise.filter _ List.pairwise_lt_range)
  simp only [leI, decide_eq_true_eq]
  omega
theorem keys_sorted {m : Nat → Option Sec} {D : DataW Unit} {n : Nat} {ss : List Int} (hp : (dirtyZ n m).Perm (intKeys D)) (hs : ss.Perm (intKeys D)) : ss.mergeSort (fun x y => decide (x ≤ y)) = dirtyZ n m := by
  have e := mergeSort_of_perm_i (hs.trans hp.symm)
  have e2 : (dirtyZ n m).mergeSort leI = dirtyZ n m := List.mergeSort_of_pairwise (dirtyZ_sorted n m)
  exact e.trans e2
theorem size_intKeys {H : Type} (D : DataW H) : (intKeys D).length = size D := by cases D <;> simp [intKeys, size]
structure Dsk (w : World) (p g b n : Nat) (F : Nat → Sec) (m : Nat → Option Sec) : Prop where
  flu : ∃ c, w.cell? ⟨p, 0, none⟩ = some (.slice (some ⟨g, 0, none⟩) n c)
  dir : w.cell? ⟨p, 1, none⟩ = some (.map (some b))
  one : 1 ≤ n
  top : n ≤ 1024
  lenF : ∀ i, (F i).length = 64
  lenM : ∀ i S, m i = some S → S.length = 64 ∧ i < n
  rng : ∀ i, i < n → w.rangeAt g (i * 64) (u8s (F i))
  the : w.there g 0 (n * 64)
  own : ∃ D, w.ownsMap Tryz.prog 3 secR b n D ∧ MapOf m D
  pg : p ≠ g
  pb : p ≠ b
  gb : g ≠ b
theorem Dsk.lenN {w : World} {p g b n : Nat} {F : Nat → Sec} {m : Nat → Option Sec} (h : Dsk w p g b n F m) (i : Nat) : (now F m i).length = 64 := by
  unfold now
  cases hm : m i with
  | none => simpa using h.lenF i
  | some S => simpa using (h.lenM i S hm).1
theorem Dsk.ltp {w : World} {p g b n : Nat} {F : Nat → Sec} {m : Nat → Option Sec} (h : Dsk w p g b n F m) : p < w.heap.size := World.block_lt_of_cell? w _ h.dir
theorem Dsk.ltb {w : World} {p g b n : Nat} {F : Nat → Sec} {m : Nat → Option Sec} (h : Dsk w p g b n F m) : b < w.heap.size := by obtain ⟨D, h1, _⟩ := h.own; exact h1.lt
theorem Dsk.ltg {w : World} {p g b n : Nat} {F : Nat → Sec} {m : Nat → Option Sec} (h : Dsk w p g b n F m) : g < w.heap.size := by
  have h1 := (h.the 0 (by have := h.one; omega)).1
  obtain ⟨u, hu⟩ := Option.isSome_iff_exists.1 h1
  exact World.block_lt_of_cell? w _ hu
theorem Dsk.keep {w w' : World} {p g b n : Nat} {F : Nat → Sec} {m : Nat → Option Sec} (h : Dsk w p g b n F m) {l : List Nat} (hc : Chg l w w') (hp : p ∉ l) (hg : g ∉ l) (hb : b ∉ l) : Dsk w' p g b n F m := by
  obtain ⟨c, hf⟩ := h.flu
  obtain ⟨D, ho, hm⟩ := h.own
  have hlt := h.ltb
  refine ⟨⟨c, hc.cell hf hp⟩, hc.cell h.dir hp, h.one, h.top, h.lenF, h.lenM, fun i hi => hc.range (h.rng i hi) hg, hc.there h.the hg, ⟨D, ?_, hm⟩, h.pg, h.pb, h.gb⟩
  obtain ⟨es, clock, hes, hrest⟩ := ho
  exact ⟨es, clock, (hc.block b hlt hb).trans hes, hrest⟩
theorem Dsk.kept {w w' : World} {p g b n : Nat} {F : Nat → Sec} {m : Nat → Option Sec} (h : Dsk w p g b n F m) (hc : Chg [] w w') : Dsk w' p g b n F m := h.keep hc (by simp) (by simp) (by simp)
theorem Dsk.low {w w' : World} {p g b n : Nat} {F : Nat → Sec} {m : Nat → Option Sec} (h : Dsk w p g b n F m) (hb : Below w.heap.size w w') : Dsk w' p g b n F m := h.kept ((Chg.refl [] w).of_below hb)
def cleanW (w : World) (v : Value) : World := (w.alloc (.map #[] 0)).alloc (.cells #[v, .map (some w.heap.size)] 121)
theorem clean_any (w : World) (a : Option Addr) (n c : Nat) :
    Calls Tryz.prog 36 #[.slice a n c] w fun e w' => e = .returned (.pointer (some ⟨w.heap.size + 1, 0, none⟩)) ∧ w' = cleanW w (.slice a n c) := by
  have hmm := @run_makeMap Tryz.prog
  go_enter Tryz.func36, Tryz.ntmps36
  go_wp2
  go_ret
  exact ⟨rfl, rfl⟩
theorem check_ok (w : World) {p g b n : Nat} {F : Nat → Sec} {m : Nat → Option Sec} (hd : Dsk w p g b n F m) (i : Int) (h0 : 0 ≤ i) (h1 : i < n) :
    Calls Tryz.prog 65 #[.pointer (some ⟨p, 0, none⟩), .int .i64 i] w fun e w' => e = .returned (.int .i64 0) ∧ w = w' := by
  obtain ⟨c, hf⟩ := hd.flu
  have ht := hd.top
  have e1 : decide (i < 0) = false := by simp; omega
  have e2 : decide ((n : Int) ≤ i) = false := by simp; omega
  have H1 : (i < 0) = False := by simp; omega
  have H2 : ((n : Int) ≤ i) = False := by simp; omega
  clear hd
  go_enter Tryz.func65, Tryz.ntmps65
  go_wp2
  go_ret
  exact ⟨rfl, rfl⟩
theorem len_ok (w : World) {p g b n : Nat} {F : Nat → Sec} {m : Nat → Option Sec} (hd : Dsk w p g b n F m) :
    Calls Tryz.prog 76 #[.pointer (some ⟨p, 0, none⟩)] w fun e w' => e = .returned (.int .i64 n) ∧ w = w' := by
  obtain ⟨c, hf⟩ := hd.flu
  have ht := hd.top
  clear hd
  go_enter Tryz.func76, Tryz.ntmps76
  go_wp2
  go_ret
  exact ⟨rfl, rfl⟩
end Go.Proofs.YtmpajlpemabniaaGreat
namespace Go.Proofs.YtmpajlpemabniaaGreat
set_option linter.unusedVariables false
set_option linter.unusedSimpArgs false
open Go.RowKit Go.Maps Go.WideAt Go.ChangeMaps Go.MapKept Go.WideElems
theorem run_eq_cells {P : Program} (d : Nat) (e : TypeId) {k : IntKind} (he : P.underlying e = some (.int k)) (S T : Sec) :
   ∀ (l : List Nat) (w : World), (∀ i ∈ l, i < S.length ∧ i < T.length) →
    Sem.run P (forIn l ((none : Option Bool), ()) fun i _ => do
      let a ← part e (u8s S).toArray (i * 1)
      let b ← part e (u8s T).toArray (i * 1)
      let q ← Op.equalIn (d + 1) e a b
      if (!q) = true then pure (.done (some false, ())) else pure (.yield (none, ()))) w = .ok (if l.all (fun i => S.getD i 0 == T.getD i 0) then (none, ()) else (some false, ())) w
  | [], w, _ => by simp
  | i :: l, w, h => by
    obtain ⟨h1, h2⟩ := h i (by simp)
    have hx : ∀ (U : Sec), i < U.length → (u8s U).toArray[i * 1]? = some (.int .u8 ((U.getD i 0).toNat : Nat)) := by
      intro U hU
      simp [u8s, hU, List.getD]
    rw [List.forIn_cons]
    simp only [Sem.run_bind, run_part_cell he (hx S h1), run_part_cell he (hx T h2), Result.andThen_ok, run_equalIn_int w d e .u8 k _ _ he]
    have ih := run_eq_cells d e he S T l w (fun j hj => h j (by simp [hj]))
    by_cases e1 : S.getD i 0 = T.getD i 0
    · rw [e1]
      simp only [beq_self_eq_true, Bool.not_true, Bool.false_eq_true, if_false, Sem.run_pure, Result.andThen_ok]
      simp only [List.all_cons, e1, beq_self_eq_true, Bool.true_and]
      exact ih
    · have e2 : ((((S.getD i 0).toNat : Nat) : Int) == (((T.getD i 0).toNat : Nat) : Int)) = false := by
        rw [beq_eq_false_iff_ne]
        intro e3
        exact e1 (UInt8.toNat_inj.1 (by omega))
      have e4 : (S.getD i 0 == T.getD i 0) = false := by simpa using e1
      rw [e2]
      simp only [List.all_cons, e4, Bool.false_and, Bool.not_false, if_true, Sem.run_pure, Result.andThen_ok, Bool.false_eq_true, if_false]
theorem all_eq {S T : Sec} (hS : S.length = 64) (hT : T.length = 64) : ((List.range' 0 64).all fun i => S.getD i 0 == T.getD i 0) = decide (S = T) := by
  rw [Bool.eq_iff_iff, List.all_eq_true, decide_eq_true_eq]
  constructor
  · intro h
    refine List.ext_getElem (by rw [hS, hT]) (fun i h1 h2 => ?_)
    have := h i (by simp [List.mem_range'_1]; omega)
    simpa [List.getD, h1, h2] using this
  · rintro rfl i _
    simp
theorem run_equal_sec {P : Program} (w : World) (d : Nat) (t e : TypeId) {k : IntKind} (ht : P.underlying t = some (.array 64 e)) (he : P.underlying e = some (.int k)) (hz : (Go.sizeOf e).run P w = .ok 1 w) (S T : Sec) (hS : S.length = 64) (hT : T.length = 64) :
   (Op.equalIn (d + 2) t (sv S) (sv T)).run P w = .ok (decide (S = T)) w := by
  unfold sv
  rw [Op.equalIn]
  simp only [Sem.run_bind, run_underlying ht, Result.andThen_ok, hz, Std.Legacy.Range.forIn_eq_forIn_range']
  have h := run_eq_cells d e he S T (List.range' 0 64) w (fun i hi => by simp [List.mem_range'_1] at hi; omega)
  rw [show (List.range' 0 [:64].size) = List.range' 0 64 from rfl, h, all_eq hS hT]
  by_cases e1 : S = T
  · simp [e1]
  · simp [e1]
theorem run_eql_sec (t : TypeId) (ht : Tryz.prog.underlying t = some (.array 64 5)) (S T : Sec) (hS : S.length = 64) (hT : T.length = 64) (w : World) : (binOp .eql t (sv S) (sv T)).run Tryz.prog w = .ok (.bool (decide (S = T))) w := by
  have h : (Op.equal t (sv S) (sv T)).run Tryz.prog w = .ok (decide (S = T)) w := run_equal_sec w 9998 t 5 ht Tryz.underlying5 (Tryz.sizeOf5 w) S T hS hT
  show Sem.run Tryz.prog (do pure (Value.bool (← Op.equal t (sv S) (sv T))) : Sem Value) w = _
  rw [Sem.run_bind, h]
  rfl
section
variable {P : Program} {w : World} {ops : Array Oper} {rest : List Oper} {o : Oper} {a : Act} {Q : Exit → Act → World → Prop}
theorem wpList_alloc_sec (hgd : o.guard = none) (t : TypeId) (ho : o.op = .alloc t) (S : Sec) (hz : (zeroValue t).run P w = .ok (sv S) w)
    (h : wpList P ops Q rest (a.put o.dst (.pointer (some ⟨w.heap.size, 0, none⟩))) (w.alloc (.cells (u8s S).toArray t))) : wpList P ops Q (o :: rest) a w :=
  wpList_plain hgd fun _ hK => by
    unfold Oper.wp execOp
    simp only [ho, Sem.run_bind]
    simp [Instr.alloc, hz, newVar, newRow, sv, Value.cells]
    exact hK _ _ h
end
theorem info37 : (Tryz.prog.info? 59).map (·.size) = some 64 := by kernel_rfl
theorem zero37 (w : World) : (zeroValue 59).run Tryz.prog w = .ok (sv zsec) w := by kernel_rfl
section
variable {w : World} {ops : Array Oper} {rest : List Oper} {o : Oper} {a : Act} {Q : Exit → Act → World → Prop}
theorem wpList_alloc37 (hgd : o.guard = none) (ho : o.op = .alloc 59)
    (h : wpList Tryz.prog ops Q rest (a.put o.dst (.pointer (some ⟨w.heap.size, 0, none⟩))) (w.alloc (.cells (u8s zsec).toArray 59))) : wpList Tryz.prog ops Q (o :: rest) a w :=
  wpList_alloc_sec hgd _ ho zsec (zero37 w) h
theorem wpList_load37 (hgd : o.guard = none) (x : Operand) (ho : o.op = .load 59 x) (b off : Nat) (hx : a.eval x = .pointer (some ⟨b, off, none⟩)) (S : Sec) (hr : w.rangeAt b off (u8s S)) (hS : S.length = 64)
    (h : wpList Tryz.prog ops Q rest (a.put o.dst (sv S)) w) : wpList Tryz.prog ops Q (o :: rest) a w :=
  wpList_load_mid hgd _ x ho b off hx (u8s S) _ hr Tryz.underlying59 rfl (by rw [u8s_length, hS]; exact info37) h
theorem wpList_store37 (hgd : o.guard = none) (x y : Operand) (ho : o.op = .store 59 x y) (b off : Nat) (S : Sec) (hx : a.eval x = .pointer (some ⟨b, off, none⟩)) (hy : a.eval y = sv S) (ht : w.there b off 64) (hS : S.length = 64)
    (h : wpList Tryz.prog ops Q rest (a.put o.dst undef) (w.setCells b off (u8s S))) : wpList Tryz.prog ops Q (o :: rest) a w :=
  wpList_store_mid hgd _ x y ho b off (u8s S).toArray hx hy (by simpa [hS] using ht) (by simpa [hS] using info37) (all_oneCell_toArray (u8s_one S)) (by simpa using h)
theorem wpList_box37 (hgd : o.guard = none) (x : Operand) (ho : o.op = .box 59 x) (S : Sec) (hx : a.eval x = sv S)
    (h : wpList Tryz.prog ops Q rest (a.put o.dst (.pointer (some ⟨w.heap.size, 0, none⟩))) (w.alloc (.cells (u8s S).toArray 59))) : wpList Tryz.prog ops Q (o :: rest) a w :=
  wpList_plain hgd fun _ hK => by
    unfold Oper.wp execOp
    simp only [ho, Sem.run_bind]
    simp [hx, Instr.box, newVar, newRow, sv, Value.cells]
    exact hK _ _ h
end
theorem range_box (w : World) (S : Sec) (t : TypeId) : (w.alloc (.cells (u8s S).toArray t)).rangeAt w.heap.size 0 (u8s S) := fun j v hv => by
  rw [cell_of_row _ w.heap.size (0 + j) _ t (0, 0) (heap_alloc_new w _)]
  simpa using hv
theorem there_box (w : World) (S : Sec) (t : TypeId) (hS : S.length = 64) : (w.alloc (.cells (u8s S).toArray t)).there w.heap.size 0 64 := fun j hj => by
  refine ⟨?_, ?_⟩
  · rw [(range_box w S t) j _ (List.getElem?_eq_getElem (by simp [hS]; exact hj))]; rfl
  · rw [Nat.zero_add]
    exact Own.frozen (t := t) (cs := u8s S) (heap_alloc_new w _) j
theorem owns_clear {H : Type} {P : Program} {k e : TypeId} {R : Value → Option (DataW H × List MemPlace)} {w : World} {b n : Nat} {D : DataW H} (t : TypeId) (ht : P.underlying t = some (.map k e)) (h : w.ownsMap P k R b n D) (ty : TypeId) :
    ∃ w', (Builtin.clear_ #[t] ty #[.map (some b)]).run P w = .ok (.tuple #[]) w' ∧ w'.ownsMap P k R b 0 (.map []) ∧ Chg [b] w w' := by
  obtain ⟨es, clock, hb, F, hs, hD⟩ := h
  have hlt : b < w.heap.size := (Array.getElem?_eq_some_iff.1 hb).1
  refine ⟨setBlock w b (.map #[] clock), ?_, ⟨#[], clock, heap_setBlock_same hb _, ⟨by simp, stamped_empty clock, by simp⟩, Nat.le_refl _, rfl⟩, ?_⟩
  · simp [Builtin.clear_, run_underlying ht, MapKept.run_getObj_map hb, MapKept.run_setObj_map _ hb, Result.andThen, noResult, setBlock]
  · exact ⟨rfl, rfl, rfl, by simp [setBlock], fun k' hk hn => by simp only [List.mem_singleton] at hn; simp [setBlock, Array.getElem?_setIfInBounds, Ne.symm hn]⟩
def zrow (n : Nat) : Array Value := madeCells (u8s zsec).toArray (n * 64)
theorem u8s_rep (k j : Nat) (h : j < k) : (u8s (List.replicate k (0 : UInt8)))[j]? = some (.int .u8 0) := by
  unfold u8s
  rw [List.map_replicate, List.getElem?_replicate, if_pos h]
  rfl
theorem zsec_get (j : Nat) (hj : j < 64) : (u8s zsec)[j]? = some (.int .u8 0) := u8s_rep 64 j hj
theorem zrow_get (n j : Nat) (hj : j < n * 64) : (zrow n)[j]? = some (.int .u8 0) := by
  have h : ∀ k, k < 64 → (u8s zsec).toArray[k]! = .int .u8 0 := by
    intro k hk
    have e : (u8s zsec)[k]? = some (.int .u8 0) := zsec_get k hk
    simp only [List.getElem!_toArray]
    rw [List.getElem!_eq_getElem?_getD, e]; rfl
  unfold zrow madeCells
  rw [Array.getElem?_map, Array.getElem?_range, if_pos hj]
  have e2 : (u8s zsec).toArray.size = 64 := by simp [zsec]
  simp only [Option.map_some]
  rw [e2, h _ (Nat.mod_lt _ (by omega))]
theorem range_zrow {w : World} {g n : Nat} {t : TypeId} (h : w.heap[g]? = some (.cells (zrow n) t (0, 0))) (i : Nat) (hi : i < n) : w.rangeAt g (i * 64) (u8s zsec) := fun j v hv => by
  have hj : j < 64 := by have := (List.getElem?_eq_some_iff.1 hv).1; simpa [zsec] using this
  rw [cell_of_row w g (i * 64 + j) _ t (0, 0) h, zrow_get n _ (by omega), ← hv, zsec_get j hj]
theorem there_zrow {w : World} {g n : Nat} {t : TypeId} (h : w.heap[g]? = some (.cells (zrow n) t (0, 0))) : w.there g 0 (n * 64) := fun j hj => by
  refine ⟨by rw [Nat.zero_add, cell_of_row w g j _ t (0, 0) h, zrow_get n _ hj]; rfl, ?_⟩
  simp [World.frozen?, h]
theorem make37 (w : World) (n : Nat) (hn : n ≤ 1024) : (Instr.makeSlice 88 (.int .i64 n) (.int .i64 n)).run Tryz.prog w = .ok (.slice (some ⟨w.heap.size, 0, none⟩) n n) (w.alloc (.cells (zrow n) 59)) := by
  obtain ⟨i, hi, hz⟩ := Option.map_eq_some_iff.1 (show (Tryz.prog.info? 59).map (fun i => (i.zero, i.size, i.bytes)) = some (some (sv zsec), 64, 64) by kernel_rfl)
  simp only [Prod.mk.injEq] at hz
  have h := run_make (P := Tryz.prog) w 88 59 i (sv zsec) Tryz.underlying88 hi hz.1 .i64 .i64 n n (by omega) (by omega) (by rw [hz.2.2]; omega) (by omega)
  rw [h, hz.2.1]
  simp [zrow, sv, Value.cells]
theorem clean_dsk {w : World} {g n c : Nat} {F : Nat → Sec} (h1 : 1 ≤ n) (h2 : n ≤ 1024) (hF : ∀ i, (F i).length = 64) (hr : ∀ i, i < n → w.rangeAt g (i * 64) (u8s (F i))) (ht : w.there g 0 (n * 64)) :
    Dsk (cleanW w (.slice (some ⟨g, 0, none⟩) n c)) (w.heap.size + 1) g w.heap.size n F (fun _ => none) ∧ Chg [] w (cleanW w (.slice (some ⟨g, 0, none⟩) n c)) := by
  have hg : g < w.heap.size := by
    obtain ⟨u, hu⟩ := Option.isSome_iff_exists.1 (ht 0 (by omega)).1
    exact World.block_lt_of_cell? w _ hu
  unfold cleanW
  have hs : (w.alloc (.map #[] 0)).heap.size = w.heap.size + 1 := by simp
  have hnew := heap_alloc_new (w.alloc (.map #[] 0)) (.cells #[.slice (some ⟨g, 0, none⟩) n c, .map (some w.heap.size)] 121)
  rw [hs] at hnew
  have hC : Chg [] w ((w.alloc (.map #[] 0)).alloc (.cells #[.slice (some ⟨g, 0, none⟩) n c, .map (some w.heap.size)] 121)) := ((Chg.refl [] w).alloc _).alloc _
  refine ⟨⟨⟨c, ?_⟩, ?_, h1, h2, hF, (fun i S h => by cases h), fun i hi => hC.range (hr i hi) (by simp), hC.there ht (by simp), ⟨.map [], ?_, MapOf.empty⟩, by omega, by omega, by omega⟩, hC⟩
  · rw [cell_of_row _ (w.heap.size + 1) 0 _ _ (0, 0) hnew]; rfl
  · rw [cell_of_row _ (w.heap.size + 1) 1 _ _ (0, 0) hnew]; rfl
  · exact ((World.ownsMap_made w Tryz.prog 3 secR).alloc _).mono (by omega)
theorem new_ok (w : World) (n : Nat) (h1 : 1 ≤ n) (h2 : n ≤ 1024) :
    Calls Tryz.prog 10 #[.int .i64 n] w fun e w' => e = .returned (.tuple #[.pointer (some ⟨w.heap.size + 2, 0, none⟩), .int .i64 0]) ∧
      Dsk w' (w.heap.size + 2) w.heap.size (w.heap.size + 1) n (fun _ => zsec) (fun _ => none) ∧ Chg [] w w' := by
  have hmk := fun w => make37 w n h2
  have e1 : decide ((n : Int) < 1) = false := by simp; omega
  have e2 : decide ((1024 : Int) < n) = false := by simp; omega
  have e3 : ((n : Int) < 1) = False := by simp; omega
  have e4 : ((1024 : Int) < n) = False := by simp; omega
  have e5 : decide (n < 1) = false := by simp; omega
  have e6 : decide (1024 < n) = false := by simp; omega
  have hrow := heap_alloc_new w (.cells (zrow n) 59)
  have hD := clean_dsk (c := n) h1 h2 (fun _ => zsec_len) (fun i hi => range_zrow hrow i hi) (there_zrow hrow)
  rw [show (w.alloc (.cells (zrow n) 59)).heap.size = w.heap.size + 1 from by simp] at hD
  have HD := Lib.hid hD
  clear hD hrow
  go_enter Tryz.func10, Tryz.ntmps10
  go_wp2_with (go_at_call 36; refine (clean_any _ _ _ _).mono ?_; rintro e w' ⟨rfl, rfl⟩)
  go_ret2
  refine ⟨by simp, HD.out.1, ((Chg.refl [] w).alloc _).then HD.out.2 (by simp)⟩
def fillS (bs : List UInt8) : Sec := splice zsec 0 (bs.take 64)
theorem fillS_len (bs : List UInt8) : (fillS bs).length = 64 := by
  have h : zsec.length = 64 := zsec_len
  unfold fillS
  rw [length_splice _ _ _ (by rw [List.length_take, h]; omega), h]
theorem fillS_get (bs : List UInt8) (i : Nat) (hi : i < 64) : (fillS bs)[i]? = some (bs.getD i 0) := by
  unfold fillS splice
  rw [List.take_zero, List.nil_append, Nat.zero_add]
  rcases Nat.lt_or_ge i bs.length with h | h
  · rw [List.getElem?_append_left (by rw [List.length_take]; omega), List.getElem?_take, if_pos hi]
    simp [List.getD, h]
  · rw [List.getElem?_append_right (by rw [List.length_take]; omega), List.getElem?_drop, List.length_take]
    have e : bs[i]? = none := List.getElem?_eq_none h
    have e2 : (zsec)[min 64 bs.length + (i - min 64 bs.length)]? = some 0 := by
      unfold zsec
      rw [List.getElem?_replicate, if_pos (by omega)]
    simp only [List.getD, e, Option.getD_none]
    exact e2
theorem results_cell {P : Program} {fn : Func} {tmps : Array Value} {w : World} {j : Nat} {t : TypeId} {p : Addr} {v : Value} (h : fn.results = #[.cell j t]) (hx : tmps.getD j undef = .pointer (some p)) (hl : (loadVar t p).run P w = .ok v w) : (results fn tmps).run P w = .ok v w := by
  have hx' : tmps[j]?.getD undef = .pointer (some p) := by simpa using hx
  simp [results, h, hx', asAddr, hl]
theorem results_cell2 {P : Program} {fn : Func} {tmps : Array Value} {w : World} {j k : Nat} {t : TypeId} {p : Addr} {v : Value} (h : fn.results = #[.cell j t, .tmp k]) (hx : tmps.getD j undef = .pointer (some p)) (hl : (loadVar t p).run P w = .ok v w) : (results fn tmps).run P w = .ok (.tuple #[v, tmps.getD k undef]) w := by
  have hx' : tmps[j]?.getD undef = .pointer (some p) := by simpa using hx
  simp [results, h, hx', asAddr, hl]
theorem load37 {w : World} {b off : Nat} {S : Sec} (hr : w.rangeAt b off (u8s S)) (hS : S.length = 64) : (loadVar 59 ⟨b, off, none⟩).run Tryz.prog w = .ok (sv S) w :=
  run_loadVar_mid w b off _ (u8s S) _ hr Tryz.underlying59 rfl (by rw [u8s_length, hS]; exact info37)
theorem splice_fill (bs : List UInt8) : splice (u8s zsec) 0 ((u8s bs).take 64) = u8s (fillS bs) := by
  unfold splice fillS u8s
  simp [List.map_take, List.map_drop, splice]
def two (w : World) (S T : Sec) (t : TypeId) : World := (w.alloc (.cells (u8s S).toArray t)).alloc (.cells (u8s T).toArray t)
theorem two_new (w : World) (S T : Sec) (t : TypeId) : (two w S T t).heap[w.heap.size + 1]? = some (.cells (u8s T).toArray t (0, 0)) := by
  have h := heap_alloc_new (w.alloc (.cells (u8s S).toArray t)) (.cells (u8s T).toArray t)
  simpa [two] using h
theorem two_first (w : World) (S T : Sec) (t : TypeId) : (two w S T t).heap[w.heap.size]? = some (.cells (u8s S).toArray t (0, 0)) := by
  unfold two
  rw [Below.heap_alloc _ _ _ (by simp)]
  exact heap_alloc_new w _
theorem two_size (w : World) (S T : Sec) (t : TypeId) : (two w S T t).heap.size = w.heap.size + 2 := by simp [two]
theorem two_chg (w : World) (S T : Sec) (t : TypeId) : Chg [] w (two w S T t) := ((Chg.refl [] w).alloc _).alloc _
theorem range_block {w : World} {g : Nat} {S : Sec} {t : TypeId} (h : w.heap[g]? = some (.cells (u8s S).toArray t (0, 0))) : w.rangeAt g 0 (u8s S) := fun j v hv => by
  rw [Nat.zero_add, cell_of_row w g j _ t (0, 0) h]
  simpa using hv
theorem there_block {w : World} {g : Nat} {S : Sec} {t : TypeId} (h : w.heap[g]? = some (.cells (u8s S).toArray t (0, 0))) (hS : S.length = 64) : w.there g 0 64 := fun j hj => by
  refine ⟨?_, ?_⟩
  · rw [range_block h j _ (List.getElem?_eq_getElem (by simp [hS]; exact hj))]; rfl
  · rw [Nat.zero_add]
    exact Own.frozen (t := t) (cs := u8s S) h j
theorem copy_src (w : World) (a : Option Addr) (bs : List UInt8) (S T : Sec) (t : TypeId) (hr : Ro w w.heap.size a (u8s bs)) (g : Nat) :
    0 < ((u8s bs).take 64).length → (some (⟨g, 0, none⟩ : Addr) = some ⟨g, 0, none⟩) ∧ ∃ ad, a = some ad ∧ ∀ j v, ((u8s bs).take 64)[j]? = some v → (two w S T t).cell? (ad.add j) = some v := by
  intro hpos
  have hb : 0 < bs.length := by simp only [List.length_take, u8s_length] at hpos; omega
  obtain ⟨b, off, rfl, hlt, hcell⟩ := hr.u8 hb
  refine ⟨rfl, ⟨b, off, none⟩, rfl, fun j v hv => ?_⟩
  have hj : j < bs.length := by have := (List.getElem?_eq_some_iff.1 hv).1; simp only [List.length_take, u8s_length] at this; omega
  have hj64 : j < 64 := by have := (List.getElem?_eq_some_iff.1 hv).1; simp only [List.length_take, u8s_length] at this; omega
  rw [add_off, (two_chg w S T t).cell (hcell j hj) (by simp)]
  rw [List.getElem?_take, if_pos hj64] at hv
  rw [← hv]
  simp [u8s, List.getD, hj]
theorem fill_any (w : World) (a : Option Addr) (bs : List UInt8) (c B : Nat) (hro : Ro w B a (u8s bs)) (hB : B ≤ w.heap.size) :
    Calls Tryz.prog 193 #[.slice a bs.length c] w fun e w' => e = .returned (sv (fillS bs)) ∧ Chg [] w w' := by
  have QP := Lib.hid (copy_src w a bs zsec zsec 59 (hro.mono hB) (w.heap.size + 1))
  have QN := Lib.hid (show ((u8s bs).take 64).length = Nat.min bs.length 64 by rw [List.length_take, u8s_length, Nat.min_comm])
  have QF := Lib.hid (show 0 + ((u8s bs).take 64).length ≤ (u8s zsec).length by rw [List.length_take, u8s_length, u8s_length, zsec_len]; omega)
  have Q1 := Lib.hid (show ∀ v ∈ (u8s bs).take 64, v.oneCell' = true from fun v hv => u8s_one bs v (List.mem_of_mem_take hv))
  have QG := Lib.hid (two_new w zsec zsec 59)
  have QC := Lib.hid (two_chg w zsec zsec 59)
  have Q0 := Lib.hid (two_first w zsec zsec 59)
  have QS := Lib.hid (two_size w zsec zsec 59)
  clear hro hB
  go_enter Tryz.func193, Tryz.ntmps193
  go_wp2_with (first
    | (refine wpList_alloc37 rfl rfl ?_)
    | (refine wpList_copy_splice rfl _ _ _ _ rfl 5 Tryz.underlying39 (by kernel_rfl) _ _ _ _ _ _ rfl rfl (w.heap.size + 1) 0 (u8s zsec) 59 QG.out ((u8s bs).take 64) QN.out QP.out QF.out Q1.out (w.heap.size + 1) (two w zsec zsec 59) (Below.refl _ _) (Nat.le_refl _) ?_; intro w1 hg1 hb1)
    | (refine wpList_load37 rfl _ rfl (w.heap.size + 1) 0 rfl (fillS bs) (range_block (t := 59) (by rw [← splice_fill bs]; exact hg1.out)) (fillS_len bs) ?_)
    | (refine wpList_store37 rfl _ _ rfl w.heap.size 0 (fillS bs) rfl rfl (there_block (t := 59) ((hb1.block _ (Nat.lt_succ_self _)).trans Q0.out) zsec_len) (fillS_len bs) ?_)
    | fail)
  have hT : w1.there w.heap.size 0 64 := there_block (t := 59) ((hb1.block _ (Nat.lt_succ_self _)).trans Q0.out) zsec_len
  refine bodyPost_ret (results_cell (j := 2) (t := 59) (p := ⟨w.heap.size, 0, none⟩) Tryz.results193 rfl (load37 (S := fillS bs) (World.rangeAt_setCells_same _ _ _ _ (by rw [u8s_length, fillS_len]; exact hT)) (fillS_len bs))) rfl ⟨rfl, ?_⟩
  have hs := QS.out
  have h1 : Chg [w.heap.size + 1] (two w zsec zsec 59) w1 := ⟨hb1.os, hb1.tape, hb1.output, hb1.size, fun k hk hn => by
    simp only [List.mem_singleton] at hn
    exact hb1.block k (by omega)⟩
  exact (QC.out.then h1 (by simp)).setCells (Or.inr (Nat.le_refl _)) _ _
end Go.Proofs.YtmpajlpemabniaaGreat
