/-
  Words of this seat: rows of runs (two cells each): slices that read as a list of runs, slices of the call's own; append, copy and clear on them. Plain lemmas, no claim of their own.
-/
import Derived.Lib.Overlaps
import Derived.Lib.AppendZerosOnto
import Derived.Deep.RegionLaw
import Derived.Test.YtmpajlpemabniaaGreatZq1
import Derived.Test.YtmpajlpemabniaaGreatZq4
namespace Go.Proofs.YtmpajlpemabniaaGreat
open Go.RowKit Go.Deep
set_option linter.unusedVariables false
set_option linter.unusedSimpArgs false
def rcs : List Rn → List Value
  | [] => []
  | r :: L => .int .u64 (r.1 : Int) :: .int .u64 (r.2 : Int) :: rcs L
@[simp] theorem rcs_length (L : List Rn) : (rcs L).length = L.length * 2 := by
  induction L with
  | nil => rfl
  | cons r L ih => simp [rcs, ih]; omega
theorem rcs_append (A B : List Rn) : rcs (A ++ B) = rcs A ++ rcs B := by
  induction A with
  | nil => rfl
  | cons r A ih => simp [rcs, ih]
theorem rcs_one (L : List Rn) : ∀ v ∈ rcs L, v.oneCell' = true := by
  induction L with
  | nil => intro v hv; cases hv
  | cons r L ih =>
    intro v hv
    simp only [rcs, List.mem_cons] at hv
    rcases hv with rfl | rfl | hv
    · rfl
    · rfl
    · exact ih v hv
theorem rcs_take (L : List Rn) (k : Nat) : rcs (L.take k) = (rcs L).take (k * 2) := by
  induction L generalizing k with
  | nil => simp [rcs]
  | cons r L ih =>
    cases k with
    | zero => simp [rcs]
    | succ k => rw [show (k + 1) * 2 = k * 2 + 1 + 1 by omega]; simp [rcs, ih]
theorem rcs_drop (L : List Rn) (k : Nat) : rcs (L.drop k) = (rcs L).drop (k * 2) := by
  induction L generalizing k with
  | nil => simp [rcs]
  | cons r L ih =>
    cases k with
    | zero => simp [rcs]
    | succ k => rw [show (k + 1) * 2 = k * 2 + 1 + 1 by omega]; simp [rcs, ih]
theorem rcs_get (L : List Rn) (i : Nat) : (rcs L)[i * 2]? = L[i]?.map (fun r => Value.int .u64 (r.1 : Int)) ∧ (rcs L)[i * 2 + 1]? = L[i]?.map (fun r => Value.int .u64 (r.2 : Int)) := by
  induction L generalizing i with
  | nil => simp [rcs]
  | cons r L ih =>
    cases i with
    | zero => simp [rcs]
    | succ i => rw [show (i + 1) * 2 = i * 2 + 1 + 1 by omega]; simpa [rcs] using ih i
def el (L : List Rn) (i : Nat) : Rn := L.getD i (0, 0)
theorem el_get {L : List Rn} {i : Nat} (h : i < L.length) : L[i]? = some (el L i) := by simp [el, List.getD, h]
theorem rcs_el {L : List Rn} {i : Nat} (h : i < L.length) : (rcs L).getD (i * 2) undef = .int .u64 ((el L i).1 : Int) ∧ (rcs L).getD (i * 2 + 1) undef = .int .u64 ((el L i).2 : Int) := by
  obtain ⟨h1, h2⟩ := rcs_get L i
  rw [el_get h] at h1 h2
  simp [List.getD, h1, h2]
theorem el_mem {L : List Rn} {i : Nat} (h : i < L.length) : el L i ∈ L := by
  have : el L i = L[i] := by simp [el, List.getD, h]
  rw [this]; exact List.getElem_mem h
theorem Ro.rn {w : World} {B : Nat} {a : Option Addr} {L : List Rn} (h : Ro w B a (rcs L)) (hn : 0 < L.length) :
    ∃ b off, a = some ⟨b, off, none⟩ ∧ b < B ∧ ∀ i, i < L.length → w.cell? ⟨b, off + i * 2, none⟩ = some (.int .u64 ((el L i).1 : Int)) ∧ w.cell? ⟨b, off + i * 2 + 1, none⟩ = some (.int .u64 ((el L i).2 : Int)) := by
  obtain ⟨b, off, h1, h2, h3⟩ := h.at_ (by intro e; have e2 := congrArg List.length e; simp at e2; omega)
  refine ⟨b, off, h1, h2, fun i hi => ?_⟩
  obtain ⟨e1, e2⟩ := rcs_el hi
  have g1 := h3 (i * 2) (by simp; omega)
  have g2 := h3 (i * 2 + 1) (by simp; omega)
  rw [e1] at g1
  rw [e2] at g2
  exact ⟨g1, by rw [Nat.add_assoc]; exact g2⟩
def Lr (w : World) (base : Nat) (e : TypeId) (v : Value) (L : List Rn) : Prop := w.ownsRow base e 2 v L.length (rcs L)
theorem Lr.nil (w : World) (base : Nat) (e : TypeId) : Lr w base e (.slice none 0 0) [] := World.ownsRow_nil w base e 2
theorem Lr.lit (w : World) (base : Nat) (e : TypeId) (L : List Rn) (hb : base ≤ w.heap.size) (hm : L.length ≤ maxLen) : Lr (w.alloc (.cells (rcs L).toArray e)) base e (.slice (some ⟨w.heap.size, 0, none⟩) L.length L.length) L := by
  have := World.ownsRow_lit (base := base) (e := e) (size := 2) w (rcs L).toArray L.length hb hm (by simp)
  unfold Lr
  simpa using this
theorem Lr.form {w : World} {base : Nat} {e : TypeId} {v : Value} {L : List Rn} (h : Lr w base e v L) : ∃ a c, v = .slice a L.length c ∧ Ro w w.heap.size a (rcs L) ∧ L.length ≤ c ∧ c ≤ 9223372036854775807 ∧ (a = none → c = 0) ∧ (∀ b off sp, a = some ⟨b, off, sp⟩ → off = 0 ∧ sp = none ∧ base ≤ b ∧ b < w.heap.size ∧ v.ownBlock = some b) := by
  unfold Lr at h
  rcases h.2 with ⟨rfl, h0⟩ | ⟨g, cap, cur, rfl, hb, hh, hle, hmx, hrest⟩
  · have : L = [] := List.eq_nil_of_length_eq_zero h0
    subst this
    exact ⟨none, 0, rfl, .inl rfl, by simp, by simp, fun _ => rfl, fun _ _ _ h => by cases h⟩
  · have hlt := (World.ownsRow.lt h g rfl).2
    refine ⟨some ⟨g, 0, none⟩, cap, rfl, .inr ⟨g, 0, rfl, hlt, fun i hi => ?_⟩, hle, by unfold maxLen at hmx; omega, (fun hh => by cases hh), (fun b off sp e => by cases e; exact ⟨rfl, rfl, hb, hlt, rfl⟩)⟩
    have := World.ownsRow.cellAt h i (by simpa using hi)
    rw [Nat.zero_add, this]
    simp [List.getD, List.getElem?_eq_getElem hi]
theorem Lr.base {w : World} {base base' : Nat} {e : TypeId} {v : Value} {L : List Rn} (h : Lr w base e v L) (hb : base' ≤ base) : Lr w base' e v L := by
  unfold Lr at h ⊢
  obtain ⟨h0, h1⟩ := h
  refine ⟨h0, ?_⟩
  rcases h1 with h1 | ⟨g, cap, cur, h2, h3, h4⟩
  · exact .inl h1
  · exact .inr ⟨g, cap, cur, h2, by omega, h4⟩
theorem Lr.kept {w w' : World} {base : Nat} {e : TypeId} {v : Value} {L : List Rn} {row : Option Nat} (h : Lr w base e v L) (hg : w.grownBy w' row) (hne : v.ownBlock = none ∨ v.ownBlock ≠ row) : Lr w' base e v L :=
  World.ownsRow.kept h hg hne
theorem Lr.alloc {w : World} {base : Nat} {e : TypeId} {v : Value} {L : List Rn} (h : Lr w base e v L) (o : Obj) : Lr (w.alloc o) base e v L := World.ownsRow.alloc h o
theorem Lr.below {w w' : World} {base B : Nat} {e : TypeId} {v : Value} {L : List Rn} (h : Lr w base e v L) (hb : Below B w w') (hB : w.heap.size ≤ B) : Lr w' base e v L := by
  refine Lr.kept (row := none) h ⟨hb.os, hb.tape, hb.output, hb.size, fun b hlt _ => hb.block b (by omega)⟩ ?_
  by_cases hv : v.ownBlock = none
  · exact .inl hv
  · exact .inr hv
theorem Lr.lt {w : World} {base : Nat} {e : TypeId} {v : Value} {L : List Rn} (h : Lr w base e v L) : ∀ k, v.ownBlock = some k → base ≤ k ∧ k < w.heap.size := World.ownsRow.lt h
theorem Lr.open_ {w : World} {base : Nat} {e : TypeId} {v : Value} {L : List Rn} (h : Lr w base e v L) (hn : v ≠ .slice none 0 0) :
    ∃ g c cur, v = .slice (some ⟨g, 0, none⟩) L.length c ∧ base ≤ g ∧ Own w g e cur ∧ L.length ≤ c ∧ c ≤ maxLen ∧ cur.length = c * 2 ∧ cur.take (L.length * 2) = rcs L := by
  rcases h.2 with ⟨hv, _⟩ | ⟨g, cap, cur, rfl, hb, hh, hle, hmx, hs, ht⟩
  · exact absurd hv hn
  · exact ⟨g, cap, cur.toList, rfl, hb, by unfold Own; simpa using hh, hle, hmx, by simpa using hs, ht⟩
theorem Lr.mk {w : World} {base g c : Nat} {e : TypeId} {L : List Rn} {cur : List Value} (hb : base ≤ g) (ho : Own w g e cur) (hle : L.length ≤ c) (hm : c ≤ maxLen) (hs : cur.length = c * 2) (ht : cur.take (L.length * 2) = rcs L) :
    Lr w base e (.slice (some ⟨g, 0, none⟩) L.length c) L :=
  ⟨by simp, .inr ⟨g, c, cur.toArray, rfl, hb, ho, hle, hm, by simpa using hs, by simpa using ht⟩⟩
theorem Own.setRow {w : World} {g : Nat} {t : TypeId} {cs : List Value} (h : Own w g t cs) (cs' : List Value) : Own (w.setRow g cs'.toArray) g t cs' := setRow_heap w g cs.toArray cs'.toArray t (0, 0) h
theorem grown_setRow (w : World) (g : Nat) (cs : Array Value) : w.grownBy (w.setRow g cs) (some g) :=
  ⟨rfl, rfl, rfl, by simp [World.setRow], fun k _ hk => setRow_other w g k cs (fun e => hk (by rw [e]))⟩
theorem grown_trans {a b c : World} {r : Option Nat} (h : a.grownBy b r) (k : b.grownBy c r) : a.grownBy c r :=
  ⟨k.os.trans h.os, k.tape.trans h.tape, k.output.trans h.output, Nat.le_trans h.size k.size, fun j hj hne => (k.block j (Nat.lt_of_lt_of_le hj h.size) hne).trans (h.block j hj hne)⟩
/-! copy, of elements of two cells -/
section
variable {P : Program}
theorem run_copy2 (w : World) (dT sT ty elem : TypeId) (g o dLen dCap : Nat) (a : Addr) (sLen sCap : Nat) (cur : List Value) (t : TypeId) (cs : List Value)
    (hu : P.underlying dT = some (.slice elem)) (hs : (P.info? elem).map (·.size) = some 2)
    (hg : Own w g t cur) (hn : cs.length = Nat.min sLen dLen * 2)
    (hsrc : ∀ j v, cs[j]? = some v → w.cell? (a.add j) = some v) (hfit : o + cs.length ≤ cur.length) (h1 : ∀ v ∈ cs, v.oneCell' = true) :
    (Builtin.copy_ #[dT, sT] ty #[.slice (some ⟨g, o, none⟩) dLen dCap, .slice (some a) sLen sCap]).run P w =
      .ok (goInt (Nat.min sLen dLen)) (w.setRow g (splice cur o cs).toArray) := by
  have hl := run_loadCells_list (P := P) w a cs hsrc
  have hst := run_storeCells_at P g o t cs 0 cur.toArray w hg (by simpa using hfit) h1
  cases hq : P.info? elem with
  | none => simp [hq] at hs
  | some i =>
    have hi : i.size = 2 := by simpa [hq] using hs
    rw [hn] at hl
    simp [Builtin.copy_, run_underlying hu, Builtin.lenOf, Builtin.firstCells, sizeOf, typeInfo, hq, hi, hl, hst, splice]
theorem run_copy2_none (w : World) (dT sT ty elem : TypeId) (d a : Option Addr) (dLen dCap sLen sCap : Nat) (hu : P.underlying dT = some (.slice elem)) (hs : (P.info? elem).map (·.size) = some 2) (hn : Nat.min sLen dLen = 0) :
    (Builtin.copy_ #[dT, sT] ty #[.slice d dLen dCap, .slice a sLen sCap]).run P w = .ok (goInt 0) w := by
  cases hq : P.info? elem with
  | none => simp [hq] at hs
  | some i =>
    have hl : ∀ (x : Addr), (loadCells x 0).run P w = .ok #[] w := fun x => by simpa using run_loadCells_list (P := P) w x [] (by simp)
    cases d <;> cases a <;> simp [Builtin.copy_, run_underlying hu, Builtin.lenOf, Builtin.firstCells, sizeOf, typeInfo, hq, hn, storeCells, hl]
theorem wp_copy2 {w : World} {o : Oper} {a : Act} {K : Act → World → Prop} {Q : Exit → Act → World → Prop} (d s : Operand) (dT sT : TypeId)
    (ho : o.op = .call { callee := .builtin .copy, args := #[d, s], argTypes := #[dT, sT] }) (elem : TypeId) (hu : P.underlying dT = some (.slice elem)) (hsz : (P.info? elem).map (·.size) = some 2)
    (dp sp : Option Addr) (dLen dCap sLen sCap : Nat) (hd : a.eval d = .slice dp dLen dCap) (hs : a.eval s = .slice sp sLen sCap)
    (g off : Nat) (cur : List Value) (t : TypeId) (hg : Own w g t cur) (cs : List Value) (hn : cs.length = Nat.min sLen dLen * 2)
    (hpos : 0 < cs.length → dp = some ⟨g, off, none⟩ ∧ ∃ ad, sp = some ad ∧ ∀ j v, cs[j]? = some v → w.cell? (ad.add j) = some v)
    (hfit : off + cs.length ≤ cur.length) (h1 : ∀ v ∈ cs, v.oneCell' = true)
    (h : ∀ w', Hid (Own w' g t (splice cur off cs)) → w.grownBy w' (some g) → K (a.put o.dst (goInt (Nat.min sLen dLen))) w') : o.wp P a w K Q := by
  by_cases h0 : cs.length = 0
  · obtain rfl : cs = [] := List.eq_nil_of_length_eq_zero h0
    have hrun := run_copy2_none (P := P) w dT sT o.type elem dp sp dLen dCap sLen sCap hu hsz (by simp only [List.length_nil] at hn; omega)
    have hz : Nat.min sLen dLen = 0 := by simp only [List.length_nil] at hn; omega
    rw [hz] at h
    unfold Oper.wp
    simp [execOp, ho, resolve, invoke, builtin, hd, hs, hrun, Result.andThen]
    exact h w (show _ from by unfold Hid; simpa [splice] using hg) (World.grownBy.refl w _)
  · obtain ⟨rfl, ad, rfl, hsrc⟩ := hpos (by omega)
    have hrun := run_copy2 (P := P) w dT sT o.type elem g off dLen dCap ad sLen sCap cur t cs hu hsz hg hn hsrc hfit h1
    unfold Oper.wp
    simp [execOp, ho, resolve, invoke, builtin, hd, hs, hrun, Result.andThen]
    exact h _ (hg.setRow _) (grown_setRow _ _ _)
theorem wpList_copy2 {w : World} {ops : Array Oper} {rest : List Oper} {o : Oper} {a : Act} {Q : Exit → Act → World → Prop} (hgd : o.guard = none) (d s : Operand) (dT sT : TypeId)
    (ho : o.op = .call { callee := .builtin .copy, args := #[d, s], argTypes := #[dT, sT] }) (elem : TypeId) (hu : P.underlying dT = some (.slice elem)) (hsz : (P.info? elem).map (·.size) = some 2)
    (dp sp : Option Addr) (dLen dCap sLen sCap : Nat) (hd : a.eval d = .slice dp dLen dCap) (hs : a.eval s = .slice sp sLen sCap)
    (g off : Nat) (cur : List Value) (t : TypeId) (hg : Own w g t cur) (cs : List Value) (hn : cs.length = Nat.min sLen dLen * 2)
    (hpos : 0 < cs.length → dp = some ⟨g, off, none⟩ ∧ ∃ ad, sp = some ad ∧ ∀ j v, cs[j]? = some v → w.cell? (ad.add j) = some v)
    (hfit : off + cs.length ≤ cur.length) (h1 : ∀ v ∈ cs, v.oneCell' = true)
    (h : ∀ w', Hid (Own w' g t (splice cur off cs)) → w.grownBy w' (some g) → wpList P ops Q rest (a.put o.dst (goInt (Nat.min sLen dLen))) w') : wpList P ops Q (o :: rest) a w :=
  wpList_plain hgd fun _ hK => wp_copy2 d s dT sT ho elem hu hsz dp sp dLen dCap sLen sCap hd hs g off cur t hg cs hn hpos hfit h1 fun w' h2 h3 => hK _ _ (h w' h2 h3)
theorem step_copy2 {ops : Array Oper} {o : Oper} {a : Act} {w : World} {K : Act → World → Prop} {Q : Exit → Act → World → Prop} {E : Prop} (hgd : o.guard = none) (d s : Operand) (dT sT : TypeId)
    (ho : o.op = .call { callee := .builtin .copy, args := #[d, s], argTypes := #[dT, sT] }) (elem : TypeId) (hu : P.underlying dT = some (.slice elem)) (hsz : (P.info? elem).map (·.size) = some 2)
    (dp sp : Option Addr) (dLen dCap sLen sCap : Nat) (hd : a.eval d = .slice dp dLen dCap) (hs : a.eval s = .slice sp sLen sCap)
    (g off : Nat) (cur : List Value) (t : TypeId) (hg : Own w g t cur) (cs : List Value) (hn : cs.length = Nat.min sLen dLen * 2)
    (hpos : 0 < cs.length → dp = some ⟨g, off, none⟩ ∧ ∃ ad, sp = some ad ∧ ∀ j v, cs[j]? = some v → w.cell? (ad.add j) = some v)
    (hfit : off + cs.length ≤ cur.length) (h1 : ∀ v ∈ cs, v.oneCell' = true)
    (h : ∀ w', Hid (Own w' g t (splice cur off cs)) → w.grownBy w' (some g) → K (a.put o.dst (goInt (Nat.min sLen dLen))) w') :
    if Region.wanted o (yielded ops a.tmps) = true then Oper.wp P o a w K Q else E := by
  have hw : Region.wanted o (yielded ops a.tmps) = true := by simp [Region.wanted, hgd]
  rw [if_pos hw]
  exact wp_copy2 d s dT sT ho elem hu hsz dp sp dLen dCap sLen sCap hd hs g off cur t hg cs hn hpos hfit h1 h
/-! append, of elements of two cells -/
def Nb (w : World) (v v' : Value) : Prop := v'.ownBlock = v.ownBlock ∨ ∀ k, v'.ownBlock = some k → w.heap.size ≤ k
theorem Nb.refl (w : World) (v : Value) : Nb w v v := .inl rfl
theorem Nb.trans {w w1 : World} {a b c : Value} (h : Nb w a b) (k : Nb w1 b c) (hs : w.heap.size ≤ w1.heap.size) : Nb w a c := by
  rcases k with k | k
  · rcases h with h | h
    · exact .inl (k.trans h)
    · exact .inr fun j hj => h j (k ▸ hj)
  · exact .inr fun j hj => Nat.le_trans hs (k j hj)
theorem app_block (w : World) (base : Nat) (t ty e : TypeId) (i : TypeInfo) (z : Value) (size bytes : Nat) (ht : P.underlying t = some (.slice e)) (hi : P.info? e = some i) (hz : i.zero = some z)
    (hsize : i.size = size) (hby : i.bytes = bytes)
    (v : Value) (n : Nat) (xs : List Value) (hown : w.ownsRow base e size v n xs)
    (a : Addr) (m c : Nat) (news : List Value) (hl : news.length = m * size) (hnews : ∀ j u, news[j]? = some u → w.cell? (a.add j) = some u) (h1 : ∀ u ∈ news, u.oneCell' = true)
    (h63 : n + m ≤ maxLen) (hbytes : (n + m) * bytes ≤ 140737488355328) {v' : Value} {w' : World}
    (hr : (Builtin.append_ #[t, t] ty #[v, .slice (some a) m c]).run P w = .ok v' w') : Nb w v v' := by
  subst hsize
  subst hby
  simp only [maxLen] at h63
  rcases hown.2 with ⟨rfl, rfl⟩ | ⟨g, cap, cur, rfl, hbg, hg, hnc, hcm, hcs, htake⟩
  · by_cases hm : m = 0
    · subst hm
      obtain rfl : news = [] := List.eq_nil_of_length_eq_zero (by simpa using hl)
      have : (Builtin.append_ #[t, t] ty #[.slice none 0 0, .slice (some a) 0 c]).run P w = .ok (.slice none 0 0) w := by
        simp [Builtin.append_, run_underlying ht, sizeOf, typeInfo, hi, Builtin.lenOf, Builtin.firstCells, loadCells, loadCellsFrom]
      rw [this] at hr
      cases hr
      exact .inl rfl
    · have := run_append_nil (P := P) w t ty e i z ht hi hz a m c news hl hnews (by omega) (by omega) (by have hb := hbytes; simp only [Nat.zero_add] at hb; omega)
      rw [this] at hr
      cases hr
      exact .inr fun k hk => by simp [Value.ownBlock] at hk; omega
  · by_cases hroom : n + m ≤ cap
    · have hfit : n * i.size + news.length ≤ cur.size := by rw [hl, hcs, ← Nat.add_mul]; exact Nat.mul_le_mul_right _ hroom
      have := run_append_room (P := P) w t ty e i ht hi g n cap cur hg a m c news hl hnews h1 hroom hfit
      rw [this] at hr
      cases hr
      exact .inl rfl
    · have holds : ∀ j u, xs[j]? = some u → w.cell? ((⟨g, 0, none⟩ : Addr).add j) = some u := hown.cells (g := g) rfl
      have := run_append_grow (P := P) w t ty e i z ht hi hz ⟨g, 0, none⟩ n cap xs hown.1 holds a m c news hl hnews (by omega) (by omega) (growslice_fits (by omega) hbytes)
      rw [this] at hr
      cases hr
      exact .inr fun k hk => by simp [Value.ownBlock] at hk; omega
theorem wp_appS {o : Oper} {a : Act} {w : World} {K : Act → World → Prop} {Q : Exit → Act → World → Prop} (s x : Operand) (t : TypeId)
    (ho : o.op = .call { callee := .builtin .append, args := #[s, x], argTypes := #[t, t] })
    (base : Nat) (e : TypeId) (z : Value) (bytes : Nat) (ht : P.underlying t = some (.slice e)) (hinfo : (P.info? e).map (fun i => (i.zero, i.size, i.bytes)) = some (some z, 2, bytes)) (hzs : z.cells.size = 2)
    (v : Value) (L : List Rn) (hs : a.eval s = v) (hown : Lr w base e v L)
    (A : Option Addr) (B m c : Nat) (V : List Rn) (hx : a.eval x = .slice A m c) (hm : V.length = m) (hro : Ro w B A (rcs V))
    (hlen : (L.length + m) * bytes ≤ 140737488355328) (hlen2 : L.length + m ≤ 140737488355328) (hbase : base ≤ w.heap.size)
    (h : ∀ v' w', Hid (Lr w' base e v' (L ++ V)) → w.grownBy w' v.ownBlock → Nb w v v' → K (a.put o.dst v') w') : o.wp P a w K Q := by
  obtain ⟨i, hi, hzz⟩ := Option.map_eq_some_iff.1 hinfo
  simp only [Prod.mk.injEq] at hzz
  obtain ⟨hz, hsz, hby⟩ := hzz
  subst hm
  rcases A with _ | ad
  · have hn : V = [] := by
      rcases hro with h | ⟨b, off, h, _⟩
      · have := congrArg List.length h; exact List.eq_nil_of_length_eq_zero (by simp at this; omega)
      · cases h
    subst hn
    have hrun : ∀ ty, (Builtin.append_ #[t, t] ty #[v, .slice none 0 c]).run P w = .ok v w := fun ty => by
      rcases hown.2 with ⟨rfl, h0⟩ | ⟨g, cap, cur, rfl, _, _, hnc, _⟩
      · simp [Builtin.append_, run_underlying ht, sizeOf, typeInfo, hi, Builtin.lenOf, Builtin.firstCells]
      · simp [Builtin.append_, run_underlying ht, sizeOf, typeInfo, hi, Builtin.lenOf, Builtin.firstCells, hnc, storeCells]
    have hr := hrun o.type
    unfold Oper.wp
    simp only [List.length_nil] at hx
    simp [execOp, ho, resolve, invoke, builtin, hs, hx, hr, Result.andThen]
    refine h v w ?_ (World.grownBy.refl w _) (Nb.refl _ _)
    rw [List.append_nil]
    exact hown
  · have hcells : ∀ j u, (rcs V)[j]? = some u → w.cell? (ad.add j) = some u := by
      intro j u hu
      have hj : j < (rcs V).length := (List.getElem?_eq_some_iff.1 hu).1
      rcases hro with h | ⟨b, off, h, hb, hc⟩
      · rw [h] at hj; simp at hj
      · injection h with h
        subst h
        rw [add_off, hc j hj]
        simp [List.getD, hu]
    obtain ⟨v', w', hr, h2, h3, _⟩ := run_append_own (P := P) w base t o.type e i z 2 bytes ht hi hz hsz hby hzs (by omega) v L.length (rcs L) hown ad V.length c (rcs V) (by simp) hcells (rcs_one V) (by unfold maxLen; omega) hlen hbase
    have h5 := app_block w base t o.type e i z 2 bytes ht hi hz hsz hby v L.length (rcs L) hown ad V.length c (rcs V) (by simp) hcells (rcs_one V) (by unfold maxLen; omega) hlen hr
    unfold Oper.wp execOp
    simp only [ho, resolve, invoke, builtin, Sem.run_bind, Sem.run_pure, Result.andThen_ok, List.map_toArray, List.map_cons, List.map_nil, hs, hx, hr]
    refine h v' w' ?_ h3 h5
    show w'.ownsRow base e 2 v' (L ++ V).length (rcs (L ++ V))
    rw [List.length_append, rcs_append]
    exact h2
theorem wpList_appS {ops : Array Oper} {rest : List Oper} {o : Oper} {a : Act} {w : World} {Q : Exit → Act → World → Prop} (hgd : o.guard = none) (s x : Operand) (t : TypeId)
    (ho : o.op = .call { callee := .builtin .append, args := #[s, x], argTypes := #[t, t] })
    (base : Nat) (e : TypeId) (z : Value) (bytes : Nat) (ht : P.underlying t = some (.slice e)) (hinfo : (P.info? e).map (fun i => (i.zero, i.size, i.bytes)) = some (some z, 2, bytes)) (hzs : z.cells.size = 2)
    (v : Value) (L : List Rn) (hs : a.eval s = v) (hown : Lr w base e v L)
    (A : Option Addr) (B m c : Nat) (V : List Rn) (hx : a.eval x = .slice A m c) (hm : V.length = m) (hro : Ro w B A (rcs V))
    (hlen : (L.length + m) * bytes ≤ 140737488355328) (hlen2 : L.length + m ≤ 140737488355328) (hbase : base ≤ w.heap.size)
    (h : ∀ v' w', Hid (Lr w' base e v' (L ++ V)) → w.grownBy w' v.ownBlock → Nb w v v' → wpList P ops Q rest (a.put o.dst v') w') : wpList P ops Q (o :: rest) a w :=
  wpList_plain hgd fun _ hK => wp_appS s x t ho base e z bytes ht hinfo hzs v L hs hown A B m c V hx hm hro hlen hlen2 hbase fun v' w' h2 h3 h4 => hK _ _ (h v' w' h2 h3 h4)
/-! clear, of elements of two cells -/
theorem run_clear2 (w : World) (t ty elem : TypeId) (i : TypeInfo) (z : Value) (hu : P.underlying t = some (.slice elem)) (hi : P.info? elem = some i) (hz : i.zero = some z) (hzs : z.cells.size = 2) (hz1 : ∀ u ∈ z.cells.toList, u.oneCell' = true)
    (g o n c : Nat) (cur : List Value) (t' : TypeId) (hg : Own w g t' cur) (hn : 0 < n) (hfit : o + n * 2 ≤ cur.length) :
    ∃ cs : List Value, cs.length = n * 2 ∧ (Builtin.clear_ #[t] ty #[.slice (some ⟨g, o, none⟩) n c]).run P w = .ok (.tuple #[]) (w.setRow g (splice cur o cs).toArray) := by
  have hlen : (Builtin.zeroCells z.cells n).toList.length = n * 2 := by rw [Array.length_toList, size_zeroCells, hzs]
  have hone : ∀ u ∈ (Builtin.zeroCells z.cells n).toList, u.oneCell' = true := by
    intro u hu
    simp only [Builtin.zeroCells, Array.toList_map, List.mem_map] at hu
    obtain ⟨k, _, rfl⟩ := hu
    have hk : k % z.cells.size < z.cells.size := Nat.mod_lt _ (by omega)
    rw [getElem!_pos z.cells _ hk]
    exact hz1 _ (by simp)
  refine ⟨(Builtin.zeroCells z.cells n).toList, hlen, ?_⟩
  have hst := run_storeCells_at P g o t' (Builtin.zeroCells z.cells n).toList 0 cur.toArray w hg (by rw [hlen]; simpa using hfit) hone
  have hzv : (zeroValue elem).run P w = .ok z w := by simp [zeroValue, typeInfo, hi, hz]
  match n, hn with
  | n + 1, _ => simp [Builtin.clear_, run_underlying hu, hzv, hst, splice]
theorem wpList_clear2 {w : World} {ops : Array Oper} {rest : List Oper} {o : Oper} {a : Act} {Q : Exit → Act → World → Prop} (hgd : o.guard = none) (d : Operand) (dT : TypeId)
    (ho : o.op = .call { callee := .builtin .clear, args := #[d], argTypes := #[dT] }) (elem : TypeId) (z : Value) (bytes : Nat) (hu : P.underlying dT = some (.slice elem)) (hinfo : (P.info? elem).map (fun i => (i.zero, i.size, i.bytes)) = some (some z, 2, bytes)) (hzs : z.cells.size = 2) (hz1 : ∀ u ∈ z.cells.toList, u.oneCell' = true)
    (dp : Option Addr) (n c : Nat) (hd : a.eval d = .slice dp n c)
    (g off : Nat) (cur : List Value) (t : TypeId) (hg : Own w g t cur) (hpos : 0 < n → dp = some ⟨g, off, none⟩) (hfit : off + n * 2 ≤ cur.length)
    (h : ∀ w' cs, cs.length = n * 2 → Hid (Own w' g t (splice cur off cs)) → w.grownBy w' (some g) → wpList P ops Q rest (a.put o.dst (.tuple #[])) w') : wpList P ops Q (o :: rest) a w := by
  obtain ⟨i, hi, hzz⟩ := Option.map_eq_some_iff.1 hinfo
  simp only [Prod.mk.injEq] at hzz
  obtain ⟨hz, _, _⟩ := hzz
  refine wpList_plain hgd fun K hK => ?_
  by_cases h0 : n = 0
  · subst h0
    have hrun : (Builtin.clear_ #[dT] o.type #[.slice dp 0 c]).run P w = .ok (.tuple #[]) w := by cases dp <;> simp [Builtin.clear_, run_underlying hu]
    unfold Oper.wp
    simp [execOp, ho, resolve, invoke, builtin, hd, hrun, Result.andThen]
    exact hK _ _ (h w [] rfl (show _ from by unfold Hid; simpa [splice] using hg) (World.grownBy.refl w _))
  · obtain rfl := hpos (by omega)
    obtain ⟨cs, hl, hrun⟩ := run_clear2 (P := P) w dT o.type elem i z hu hi hz hzs hz1 g off n c cur t hg (by omega) hfit
    unfold Oper.wp
    simp [execOp, ho, resolve, invoke, builtin, hd, hrun, Result.andThen]
    exact hK _ _ (h _ cs hl (hg.setRow _) (grown_setRow _ _ _))
end
end Go.Proofs.YtmpajlpemabniaaGreat
namespace Go.Proofs.YtmpajlpemabniaaGreat
open Go.RowKit
set_option linter.unusedVariables false
set_option linter.unusedSimpArgs false
abbrev rv (r : Rn) : Value := .agg #[.int .u64 (r.1 : Int), .int .u64 (r.2 : Int)]
abbrev rb (r : Rn) (t : TypeId) : Obj := .cells #[.int .u64 (r.1 : Int), .int .u64 (r.2 : Int)] t
def Fit (r : Rn) : Prop := r.1 < 18446744073709551616 ∧ r.2 < 18446744073709551616
theorem empty_any (r : Rn) (w : World) : Calls Tryz.prog 141 #[rv r] w fun e w' => e = .returned (.bool (decide (r.2 ≤ r.1))) ∧ w' = w.alloc (rb r 86) := by
  go_enter Tryz.func141, Tryz.ntmps141
  go_wp2
  go_ret
  exact ⟨rfl, rfl⟩
theorem endsFrom_any (r : Rn) (n : Nat) (w : World) : Calls Tryz.prog 151 #[rv r, .int .u64 n] w fun e w' => e = .returned (.bool (decide (n ≤ r.2))) ∧ w' = w.alloc (rb r 86) := by
  go_enter Tryz.func151, Tryz.ntmps151
  go_wp2
  go_ret
  exact ⟨rfl, rfl⟩
theorem endsAbove_any (r : Rn) (n : Nat) (w : World) : Calls Tryz.prog 144 #[rv r, .int .u64 n] w fun e w' => e = .returned (.bool (decide (n < r.2))) ∧ w' = w.alloc (rb r 86) := by
  go_enter Tryz.func144, Tryz.ntmps144
  go_wp2
  go_ret
  exact ⟨rfl, rfl⟩
theorem beginsFrom_any (r : Rn) (n : Nat) (w : World) : Calls Tryz.prog 145 #[rv r, .int .u64 n] w fun e w' => e = .returned (.bool (decide (n ≤ r.1))) ∧ w' = w.alloc (rb r 86) := by
  go_enter Tryz.func145, Tryz.ntmps145
  go_wp2
  go_ret
  exact ⟨rfl, rfl⟩
theorem beginsAbove_any (r : Rn) (n : Nat) (w : World) : Calls Tryz.prog 152 #[rv r, .int .u64 n] w fun e w' => e = .returned (.bool (decide (n < r.1))) ∧ w' = w.alloc (rb r 86) := by
  go_enter Tryz.func152, Tryz.ntmps152
  go_wp2
  go_ret
  exact ⟨rfl, rfl⟩
theorem length_any (r : Rn) (hr : Fit r) (hle : r.1 ≤ r.2) (w : World) : Calls Tryz.prog 150 #[rv r] w fun e w' => e = .returned (.int .u64 ((r.2 - r.1 : Nat) : Int)) ∧ Below w.heap.size w w' := by
  obtain ⟨h1, h2⟩ := hr
  have hw : IntKind.u64.wrap ((r.2 : Int) - (r.1 : Int)) = ((r.2 - r.1 : Nat) : Int) := by rw [IntKind.wrap_u64]; omega
  have HW := Lib.hid hw
  clear hw
  go_enter Tryz.func150, Tryz.ntmps150
  go_wp2
  go_ret
  exact ⟨ret_int (by first | exact HW.out | omega), (Below.refl _ _).alloc (Nat.le_refl _) _⟩
theorem ret_rv {a b : Nat} {r : Rn} (h1 : a = r.1) (h2 : b = r.2) : Ending.returned (rv (a, b)) = .returned (rv r) := by rw [h1, h2]
theorem below3 (w : World) (a b c : Obj) : Below w.heap.size w (((w.alloc a).alloc b).alloc c) := (((Below.refl _ _).alloc (Nat.le_refl _) _).alloc (by simp) _).alloc (by simp; omega) _
set_option maxHeartbeats 1000000 in
theorem met_any (x r : Rn) (w : World) : Calls Tryz.prog 233 #[rv x, rv r] w fun e w' => e = .returned (rv (met x r)) ∧ Below w.heap.size w w' := by
  go_enter Tryz.func233, Tryz.ntmps233
  go_wp2
  · exact bodyPost_ret (v := rv (r.1, r.2)) (by simp [results, Tryz.results233, go_sem]) rfl ⟨ret_rv (by simp only [met]; omega) (by simp only [met]; omega), below3 _ _ _ _⟩
  · exact bodyPost_ret (v := rv (r.1, x.2)) (by simp [results, Tryz.results233, go_sem]) rfl ⟨ret_rv (by simp only [met]; omega) (by simp only [met]; omega), below3 _ _ _ _⟩
  · exact bodyPost_ret (v := rv (x.1, r.2)) (by simp [results, Tryz.results233, go_sem]) rfl ⟨ret_rv (by simp only [met]; omega) (by simp only [met]; omega), below3 _ _ _ _⟩
  · exact bodyPost_ret (v := rv (x.1, x.2)) (by simp [results, Tryz.results233, go_sem]) rfl ⟨ret_rv (by simp only [met]; omega) (by simp only [met]; omega), below3 _ _ _ _⟩
set_option maxHeartbeats 1000000 in
theorem rjoined_any (x r : Rn) (w : World) : Calls Tryz.prog 153 #[rv x, rv r] w fun e w' => e = .returned (rv (joinR x r)) ∧ Below w.heap.size w w' := by
  go_enter Tryz.func153, Tryz.ntmps153
  go_wp2
  · exact bodyPost_ret (v := rv (r.1, r.2)) (by simp [results, Tryz.results153, go_sem]) rfl ⟨ret_rv (by simp only [joinR]; omega) (by simp only [joinR]; omega), below3 _ _ _ _⟩
  · exact bodyPost_ret (v := rv (r.1, x.2)) (by simp [results, Tryz.results153, go_sem]) rfl ⟨ret_rv (by simp only [joinR]; omega) (by simp only [joinR]; omega), below3 _ _ _ _⟩
  · exact bodyPost_ret (v := rv (x.1, r.2)) (by simp [results, Tryz.results153, go_sem]) rfl ⟨ret_rv (by simp only [joinR]; omega) (by simp only [joinR]; omega), below3 _ _ _ _⟩
  · exact bodyPost_ret (v := rv (x.1, x.2)) (by simp [results, Tryz.results153, go_sem]) rfl ⟨ret_rv (by simp only [joinR]; omega) (by simp only [joinR]; omega), below3 _ _ _ _⟩
set_option maxHeartbeats 1000000 in
theorem without_any (x r : Rn) (w : World) : Calls Tryz.prog 146 #[rv x, rv r] w fun e w' => e = .returned (.agg #[.int .u64 (x.1 : Int), .int .u64 (r.1 : Int), .int .u64 (r.2 : Int), .int .u64 (x.2 : Int)]) ∧ Below w.heap.size w w' := by
  go_enter Tryz.func146, Tryz.ntmps146
  go_wp2
  exact bodyPost_ret (v := .agg #[.int .u64 (x.1 : Int), .int .u64 (r.1 : Int), .int .u64 (r.2 : Int), .int .u64 (x.2 : Int)]) (by simp [results, Tryz.results146, go_sem]) rfl ⟨rfl, below3 _ _ _ _⟩
end Go.Proofs.YtmpajlpemabniaaGreat
