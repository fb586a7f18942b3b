/-
  Words of this seat: chains, segments and layouts, as plain values and in memory; the first index that has something. Plain lemmas, no claim of their own.
-/
import Derived.Test.YtdpaofedepnnbaaGreatCe
import Derived.Lib.SmallJoins
namespace Go.Proofs.YtdpaofedepnnbaaGreat
open Go.RowKit Go.Deep
set_option linter.unusedVariables false
set_option linter.unusedSimpArgs false

/-- a segment: from where on, its chains -/
abbrev Sg := Nat × List (List Int)
/-- a layout: its epoch, its segments, its sequencer -/
structure Ly where
  e : Nat
  s : List Sg
  q : Int
/-- a chain in memory: where, room, its units -/
structure ChT where
  a : Option Addr
  c : Nat
  u : List Int
/-- a segment in memory -/
structure SgT where
  f : Nat
  a : Option Addr
  c : Nat
  ch : List ChT
/-- a layout in memory -/
structure LyT where
  e : Nat
  a : Option Addr
  c : Nat
  sg : List SgT
  q : Int
def chx (L : List ChT) : List (List Int) := L.map ChT.u
def SgT.x (A : SgT) : Sg := (A.f, chx A.ch)
def sgx (L : List SgT) : List Sg := L.map SgT.x
def LyT.x (A : LyT) : Ly := ⟨A.e, sgx A.sg, A.q⟩
@[simp] theorem chx_length (L : List ChT) : (chx L).length = L.length := by simp [chx]
@[simp] theorem sgx_length (L : List SgT) : (sgx L).length = L.length := by simp [sgx]
def ChT.val (A : ChT) : Value := .slice A.a A.u.length A.c
def SgT.val (A : SgT) : Value := .agg #[.int .u64 (A.f : Int), .slice A.a A.ch.length A.c]
def LyT.val (A : LyT) : Value := .agg #[.int .u64 (A.e : Int), .slice A.a A.sg.length A.c, .int .i64 A.q]
instance : Inhabited ChT := ⟨⟨none, 0, []⟩⟩
instance : Inhabited SgT := ⟨⟨0, none, 0, []⟩⟩
def ct (L : List ChT) (i : Nat) : ChT := L.getD i ⟨none, 0, []⟩
def st (L : List SgT) (i : Nat) : SgT := L.getD i ⟨0, none, 0, []⟩
def cx (L : List (List Int)) (i : Nat) : List Int := L.getD i []
def sx (L : List Sg) (i : Nat) : Sg := L.getD i (0, [])
theorem ct_mem {L : List ChT} {i : Nat} (h : i < L.length) : ct L i ∈ L := by
  have : ct L i = L[i] := by simp [ct, List.getD, h]
  rw [this]; exact List.getElem_mem h
theorem st_mem {L : List SgT} {i : Nat} (h : i < L.length) : st L i ∈ L := by
  have : st L i = L[i] := by simp [st, List.getD, h]
  rw [this]; exact List.getElem_mem h
theorem cx_chx (L : List ChT) (i : Nat) : cx (chx L) i = (ct L i).u := by
  simp only [cx, chx, ct, List.getD, List.getElem?_map]; cases L[i]? <;> rfl
theorem sx_sgx (L : List SgT) (i : Nat) : sx (sgx L) i = (st L i).x := by
  simp only [sx, sgx, st, List.getD, List.getElem?_map]; cases L[i]? <;> rfl
theorem cx_mem {L : List (List Int)} {i : Nat} (h : i < L.length) : cx L i ∈ L := by
  have : cx L i = L[i] := by simp [cx, List.getD, h]
  rw [this]; exact List.getElem_mem h
theorem cx_take {L : List (List Int)} {k : Nat} (h : k < L.length) : L.take (k + 1) = L.take k ++ [cx L k] := by
  have : cx L k = L[k] := by simp [cx, List.getD, h]
  rw [List.take_succ_eq_append_getElem h, this]
theorem sx_mem {L : List Sg} {i : Nat} (h : i < L.length) : sx L i ∈ L := by
  have : sx L i = L[i] := by simp [sx, List.getD, h]
  rw [this]; exact List.getElem_mem h
theorem mem_sx {L : List Sg} {s : Sg} (h : s ∈ L) : ∃ i, i < L.length ∧ sx L i = s := by
  obtain ⟨i, hi, rfl⟩ := List.getElem_of_mem h
  exact ⟨i, hi, by simp [sx, List.getD, hi]⟩
theorem mem_cx {L : List (List Int)} {s : List Int} (h : s ∈ L) : ∃ i, i < L.length ∧ cx L i = s := by
  obtain ⟨i, hi, rfl⟩ := List.getElem_of_mem h
  exact ⟨i, hi, by simp [cx, List.getD, hi]⟩

def chv (L : List ChT) : List Value := L.map ChT.val
@[simp] theorem chv_length (L : List ChT) : (chv L).length = L.length := by simp [chv]
def sgv : List SgT → List Value
  | [] => []
  | s :: L => .int .u64 (s.f : Int) :: .slice s.a s.ch.length s.c :: sgv L
@[simp] theorem sgv_length (L : List SgT) : (sgv L).length = L.length * 2 := by
  induction L with
  | nil => rfl
  | cons r L ih => simp [sgv, ih]; omega
theorem sgv_append (A B : List SgT) : sgv (A ++ B) = sgv A ++ sgv B := by
  induction A with
  | nil => rfl
  | cons r A ih => simp [sgv, ih]
theorem sgv_one (L : List SgT) : ∀ v ∈ sgv L, v.oneCell' = true := by
  induction L with
  | nil => intro v hv; cases hv
  | cons r L ih =>
    intro v hv
    simp only [sgv, List.mem_cons] at hv
    rcases hv with rfl | rfl | hv
    · rfl
    · rfl
    · exact ih v hv
theorem chv_one (L : List ChT) : ∀ v ∈ chv L, v.oneCell' = true := by
  intro v hv
  simp only [chv, List.mem_map] at hv
  obtain ⟨x, _, rfl⟩ := hv
  rfl
theorem sgv_get (L : List SgT) (i : Nat) : (sgv L)[i * 2]? = L[i]?.map (fun r => Value.int .u64 (r.f : Int)) ∧ (sgv L)[i * 2 + 1]? = L[i]?.map (fun r => Value.slice r.a r.ch.length r.c) := by
  induction L generalizing i with
  | nil => simp [sgv]
  | cons r L ih =>
    cases i with
    | zero => simp [sgv]
    | succ i => rw [show (i + 1) * 2 = i * 2 + 1 + 1 by omega]; simpa [sgv] using ih i
theorem Ro.sg {w : World} {B : Nat} {a : Option Addr} {L : List SgT} (h : Ro w B a (sgv L)) (hn : 0 < L.length) :
    ∃ b off, a = some ⟨b, off, none⟩ ∧ b < B ∧ ∀ i, i < L.length → w.cell? ⟨b, off + i * 2, none⟩ = some (.int .u64 ((st L i).f : Int)) ∧ w.cell? ⟨b, off + i * 2 + 1, none⟩ = some (.slice (st L i).a (st L i).ch.length (st L i).c) := by
  obtain ⟨b, off, h1, h2, h3⟩ := h.at_ (by intro e; have e2 := congrArg List.length e; simp at e2; omega)
  refine ⟨b, off, h1, h2, fun i hi => ?_⟩
  obtain ⟨e1, e2⟩ := sgv_get L i
  have es : L[i]? = some (st L i) := by simp [st, List.getD, hi]
  rw [es] at e1 e2
  have g1 := h3 (i * 2) (by simp; omega)
  have g2 := h3 (i * 2 + 1) (by simp; omega)
  simp only [List.getD, e1, e2, Option.map_some, Option.getD_some] at g1 g2
  exact ⟨g1, by rw [Nat.add_assoc]; exact g2⟩
theorem Ro.ch {w : World} {B : Nat} {a : Option Addr} {L : List ChT} (h : Ro w B a (chv L)) (hn : 0 < L.length) :
    ∃ b off, a = some ⟨b, off, none⟩ ∧ b < B ∧ ∀ i, i < L.length → w.cell? ⟨b, off + i, none⟩ = some (.slice (ct L i).a (ct L i).u.length (ct L i).c) := by
  obtain ⟨b, off, h1, h2, h3⟩ := h.at_ (by intro e; have e2 := congrArg List.length e; simp only [chv_length, List.length_nil] at e2; omega)
  refine ⟨b, off, h1, h2, fun i hi => ?_⟩
  rw [h3 i (by simpa using hi)]
  simp [chv, ct, List.getD, hi, ChT.val]

/-- chains, whose rows lie below B -/
def ChIn (w : World) (B : Nat) (L : List ChT) : Prop := ∀ c ∈ L, Ro w B c.a (i64s c.u)
/-- segments, likewise -/
def SgIn (w : World) (B : Nat) (L : List SgT) : Prop := ∀ s ∈ L, Ro w B s.a (chv s.ch) ∧ ChIn w B s.ch
/-- a layout, likewise -/
def LyIn (w : World) (B : Nat) (A : LyT) : Prop := Ro w B A.a (sgv A.sg) ∧ SgIn w B A.sg
theorem ChIn.below {w w' : World} {B B' : Nat} {L : List ChT} (h : ChIn w B L) (hb : Below B' w w') (hB : B ≤ B') : ChIn w' B L := fun c hc => (h c hc).below hb hB
theorem SgIn.below {w w' : World} {B B' : Nat} {L : List SgT} (h : SgIn w B L) (hb : Below B' w w') (hB : B ≤ B') : SgIn w' B L := fun s hs => ⟨(h s hs).1.below hb hB, (h s hs).2.below hb hB⟩
theorem LyIn.below {w w' : World} {B B' : Nat} {A : LyT} (h : LyIn w B A) (hb : Below B' w w') (hB : B ≤ B') : LyIn w' B A := ⟨h.1.below hb hB, h.2.below hb hB⟩
theorem ChIn.mono {w : World} {B B' : Nat} {L : List ChT} (h : ChIn w B L) (hB : B ≤ B') : ChIn w B' L := fun c hc => (h c hc).mono hB
theorem SgIn.mono {w : World} {B B' : Nat} {L : List SgT} (h : SgIn w B L) (hB : B ≤ B') : SgIn w B' L := fun s hs => ⟨(h s hs).1.mono hB, (h s hs).2.mono hB⟩
theorem LyIn.mono {w : World} {B B' : Nat} {A : LyT} (h : LyIn w B A) (hB : B ≤ B') : LyIn w B' A := ⟨h.1.mono hB, h.2.mono hB⟩
/-- no length is beyond a machine's -/
def ChFit (L : List ChT) : Prop := L.length ≤ 9223372036854775807 ∧ ∀ c ∈ L, c.u.length ≤ 9223372036854775807
def SgFit (L : List SgT) : Prop := L.length ≤ 9223372036854775807 ∧ ∀ s ∈ L, ChFit s.ch

/-! ### what is lright -/
/-- a unit that may not come behind these -/
def ubad (us : List Int) (u : Int) : Bool := !decide (0 ≤ u ∧ u < 32) || decide (u ∈ us)
/-- some unit of a chain may not -/
def cbadU (us c : List Int) : Bool := anyN (fun k => ubad (us ++ c.take k) (c.getD k 0)) c.length
def isLen (n : Nat) : Bool := decide (1 ≤ n ∧ n ≤ 4)
def cbad (us c : List Int) : Bool := !isLen c.length || cbadU us c
def chOk (L : List (List Int)) : Bool := isLen L.length && !anyN (fun k => cbad (L.take k).flatten (cx L k)) L.length
/-- the least From that may come ahead of the k-th -/
def leastF (L : List Sg) (k : Nat) : Nat := if k = 0 then 0 else ((sx L (k - 1)).1 + 1) % 18446744073709551616
def sbad (m : Nat) (s : Sg) : Bool := decide (s.1 < m) || (decide (1048576 ≤ s.1) || !chOk s.2)
def sgOk (L : List Sg) : Bool := isLen L.length && (decide ((sx L 0).1 = 0) && !anyN (fun k => sbad (leastF L k) (sx L k)) L.length)
def lright (x : Ly) : Bool := decide (1 ≤ x.e ∧ x.e ≤ 1048576) && (decide (0 ≤ x.q ∧ x.q < 32) && sgOk x.s)

theorem cbadU_iff {us c : List Int} (hus : us.Nodup) : cbadU us c = false ↔ (∀ u ∈ c, 0 ≤ u ∧ u < 32) ∧ (us ++ c).Nodup := by
  unfold cbadU
  rw [anyN_false]
  induction c generalizing us with
  | nil => simp [hus]
  | cons u c ih =>
    have e1 : (∀ j, j < (u :: c).length → ubad (us ++ (u :: c).take j) ((u :: c).getD j 0) = false) ↔ ubad us u = false ∧ ∀ j, j < c.length → ubad ((us ++ [u]) ++ c.take j) (c.getD j 0) = false := by
      constructor
      · intro h
        refine ⟨by simpa using h 0 (by simp), fun j hj => ?_⟩
        have := h (j + 1) (by simp; omega)
        simpa using this
      · rintro ⟨h1, h2⟩ j hj
        cases j with
        | zero => simpa using h1
        | succ j => have := h2 j (by simp at hj; omega); simpa using this
    rw [e1]
    unfold ubad
    simp only [Bool.or_eq_false_iff, Bool.not_eq_false', decide_eq_true_eq, decide_eq_false_iff_not]
    constructor
    · rintro ⟨⟨h1, h2⟩, h3⟩
      have hn : (us ++ [u]).Nodup := by rw [List.nodup_append]; exact ⟨hus, by simp, fun a ha b hb => by simp at hb; subst hb; intro e; subst e; exact h2 ha⟩
      have := (ih hn).1 (by simpa [ubad] using h3)
      refine ⟨fun x hx => ?_, by simpa using this.2⟩
      rcases List.mem_cons.1 hx with rfl | hx
      · exact h1
      · exact this.1 x hx
    · rintro ⟨h1, h2⟩
      have hs : us ++ u :: c = (us ++ [u]) ++ c := by simp
      rw [hs] at h2
      have hn : (us ++ [u]).Nodup := (List.nodup_append.1 h2).1
      refine ⟨⟨h1 u (by simp), fun hu => ?_⟩, ?_⟩
      · exact (List.nodup_append.1 hn).2.2 u hu u (by simp) rfl
      · have := (ih hn).2 ⟨fun x hx => h1 x (by simp [hx]), h2⟩
        simpa [ubad] using this
theorem isLen_iff {n : Nat} : isLen n = true ↔ 1 ≤ n ∧ n ≤ 4 := by simp [isLen]
theorem cbads_iff {us : List Int} (hus : us.Nodup) (L : List (List Int)) : (∀ k, k < L.length → cbad (us ++ (L.take k).flatten) (cx L k) = false) ↔ (∀ c ∈ L, 1 ≤ c.length ∧ c.length ≤ 4) ∧ (∀ u ∈ L.flatten, 0 ≤ u ∧ u < 32) ∧ (us ++ L.flatten).Nodup := by
  induction L generalizing us with
  | nil => simp [hus]
  | cons c L ih =>
    have e1 : (∀ k, k < (c :: L).length → cbad (us ++ ((c :: L).take k).flatten) (cx (c :: L) k) = false) ↔ cbad us c = false ∧ ∀ k, k < L.length → cbad ((us ++ c) ++ (L.take k).flatten) (cx L k) = false := by
      constructor
      · intro h
        refine ⟨by simpa [cx] using h 0 (by simp), fun j hj => ?_⟩
        have := h (j + 1) (by simp; omega)
        simpa [cx] using this
      · rintro ⟨h1, h2⟩ j hj
        cases j with
        | zero => simpa [cx] using h1
        | succ j => have := h2 j (by simp at hj; omega); simpa [cx] using this
    rw [e1]
    have e2 : cbad us c = false ↔ (1 ≤ c.length ∧ c.length ≤ 4) ∧ (∀ u ∈ c, 0 ≤ u ∧ u < 32) ∧ (us ++ c).Nodup := by
      unfold cbad
      rw [Bool.or_eq_false_iff, Bool.not_eq_false', isLen_iff, cbadU_iff hus]
    rw [e2]
    simp only [List.flatten_cons, List.mem_append, List.mem_cons]
    constructor
    · rintro ⟨⟨h1, h2, h3⟩, h4⟩
      obtain ⟨g1, g2, g3⟩ := (ih h3).1 h4
      refine ⟨?_, ?_, by simpa using g3⟩
      · rintro x (rfl | hx)
        · exact h1
        · exact g1 x hx
      · rintro u (hu | hu)
        · exact h2 u hu
        · exact g2 u hu
    · rintro ⟨h1, h2, h3⟩
      rw [← List.append_assoc] at h3
      have hn := (List.nodup_append.1 h3).1
      exact ⟨⟨h1 c (.inl rfl), fun u hu => h2 u (.inl hu), hn⟩, (ih hn).2 ⟨fun x hx => h1 x (.inr hx), fun u hu => h2 u (.inr hu), h3⟩⟩
theorem chOk_iff {L : List (List Int)} : chOk L = true ↔ (1 ≤ L.length ∧ L.length ≤ 4) ∧ (∀ c ∈ L, 1 ≤ c.length ∧ c.length ≤ 4) ∧ (∀ u ∈ L.flatten, 0 ≤ u ∧ u < 32) ∧ L.flatten.Nodup := by
  unfold chOk
  rw [Bool.and_eq_true, isLen_iff, Bool.not_eq_true', anyN_false]
  have := cbads_iff (us := []) (by simp) L
  simp only [List.nil_append] at this
  rw [this]
theorem sgOk_iff {L : List Sg} : sgOk L = true ↔ (1 ≤ L.length ∧ L.length ≤ 4) ∧ (sx L 0).1 = 0 ∧ (∀ i, i < L.length → (sx L i).1 < 1048576 ∧ chOk (sx L i).2 = true) ∧ ∀ i, i + 1 < L.length → (sx L i).1 < (sx L (i + 1)).1 := by
  unfold sgOk
  rw [Bool.and_eq_true, Bool.and_eq_true, isLen_iff, Bool.not_eq_true', anyN_false, decide_eq_true_eq]
  refine and_congr_right fun h1 => and_congr_right fun h2 => ?_
  unfold sbad
  simp only [Bool.or_eq_false_iff, decide_eq_false_iff_not, Bool.not_eq_false']
  constructor
  · intro h
    refine ⟨fun i hi => ⟨by have := (h i hi).2.1; omega, (h i hi).2.2⟩, fun i hi => ?_⟩
    have g1 := (h (i + 1) hi).1
    have g2 := (h i (by omega)).2.1
    unfold leastF at g1
    rw [if_neg (by omega), Nat.add_sub_cancel] at g1
    omega
  · rintro ⟨h3, h4⟩ j hj
    refine ⟨?_, by have := (h3 j hj).1; omega, (h3 j hj).2⟩
    unfold leastF
    split
    · omega
    · have := h4 (j - 1) (by omega)
      have g := (h3 (j - 1) (by omega)).1
      rw [show j - 1 + 1 = j by omega] at this
      omega
theorem lright_iff {x : Ly} : lright x = true ↔ (1 ≤ x.e ∧ x.e ≤ 1048576) ∧ (0 ≤ x.q ∧ x.q < 32) ∧ sgOk x.s = true := by
  unfold lright
  rw [Bool.and_eq_true, Bool.and_eq_true, decide_eq_true_eq, decide_eq_true_eq]
end Go.Proofs.YtdpaofedepnnbaaGreat
