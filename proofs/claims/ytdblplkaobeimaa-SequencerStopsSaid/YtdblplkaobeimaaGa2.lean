/-
  Words of this seat: chains, segments and layouts, as plain values and in memory; the first index that has something. Plain lemmas, no claim of their own.
-/
import Derived.Test.YtdblplkaobeimaaGa1
import Derived.Lib.SmallJoins
import Derived.Shelf.Lay
import Derived.Laws.EntriesVeiled
import Derived.Deep.Cut
namespace Go.Proofs.Ytdblplkaobeimaa
open Go.RowKit Go.Deep
set_option linter.unusedVariables false
set_option linter.unusedSimpArgs false

/-- a segment: from where on, its chains -/
abbrev Sg := Nat × List (List Int)
/-- a layout: its epoch, its segments, its sequencer -/
structure Ly where
  e : Nat
  s : List Sg
  q : Int
/-- a chain in memory: where, room, its units -/
structure ChT where
  a : Option Addr
  c : Nat
  u : List Int
/-- a segment in memory -/
structure SgT where
  f : Nat
  a : Option Addr
  c : Nat
  ch : List ChT
/-- a layout in memory -/
structure LyT where
  e : Nat
  a : Option Addr
  c : Nat
  sg : List SgT
  q : Int
def chx (L : List ChT) : List (List Int) := L.map ChT.u
def SgT.x (A : SgT) : Sg := (A.f, chx A.ch)
def sgx (L : List SgT) : List Sg := L.map SgT.x
def LyT.x (A : LyT) : Ly := ⟨A.e, sgx A.sg, A.q⟩
@[simp] theorem chx_length (L : List ChT) : (chx L).length = L.length := by simp [chx]
@[simp] theorem sgx_length (L : List SgT) : (sgx L).length = L.length := by simp [sgx]
def ChT.val (A : ChT) : Value := .slice A.a A.u.length A.c
def SgT.val (A : SgT) : Value := .agg #[.int .u64 (A.f : Int), .slice A.a A.ch.length A.c]
def LyT.val (A : LyT) : Value := .agg #[.int .u64 (A.e : Int), .slice A.a A.sg.length A.c, .int .i64 A.q]
instance : Inhabited ChT := ⟨⟨none, 0, []⟩⟩
instance : Inhabited SgT := ⟨⟨0, none, 0, []⟩⟩
def ct (L : List ChT) (i : Nat) : ChT := L.getD i ⟨none, 0, []⟩
def st (L : List SgT) (i : Nat) : SgT := L.getD i ⟨0, none, 0, []⟩
def cx (L : List (List Int)) (i : Nat) : List Int := L.getD i []
def sx (L : List Sg) (i : Nat) : Sg := L.getD i (0, [])
theorem ct_mem {L : List ChT} {i : Nat} (h : i < L.length) : ct L i ∈ L := by
  have : ct L i = L[i] := by simp [ct, List.getD, h]
  rw [this]; exact List.getElem_mem h
theorem st_mem {L : List SgT} {i : Nat} (h : i < L.length) : st L i ∈ L := by
  have : st L i = L[i] := by simp [st, List.getD, h]
  rw [this]; exact List.getElem_mem h
theorem cx_chx (L : List ChT) (i : Nat) : cx (chx L) i = (ct L i).u := by
  simp only [cx, chx, ct, List.getD, List.getElem?_map]; cases L[i]? <;> rfl
theorem sx_sgx (L : List SgT) (i : Nat) : sx (sgx L) i = (st L i).x := by
  simp only [sx, sgx, st, List.getD, List.getElem?_map]; cases L[i]? <;> rfl
theorem cx_mem {L : List (List Int)} {i : Nat} (h : i < L.length) : cx L i ∈ L := by
  have : cx L i = L[i] := by simp [cx, List.getD, h]
  rw [this]; exact List.getElem_mem h
theorem cx_take {L : List (List Int)} {k : Nat} (h : k < L.length) : L.take (k + 1) = L.take k ++ [cx L k] := by
  have : cx L k = L[k] := by simp [cx, List.getD, h]
  rw [List.take_succ_eq_append_getElem h, this]
theorem sx_mem {L : List Sg} {i : Nat} (h : i < L.length) : sx L i ∈ L := by
  have : sx L i = L[i] := by simp [sx, List.getD, h]
  rw [this]; exact List.getElem_mem h
theorem mem_sx {L : List Sg} {s : Sg} (h : s ∈ L) : ∃ i, i < L.length ∧ sx L i = s := by
  obtain ⟨i, hi, rfl⟩ := List.getElem_of_mem h
  exact ⟨i, hi, by simp [sx, List.getD, hi]⟩
theorem mem_cx {L : List (List Int)} {s : List Int} (h : s ∈ L) : ∃ i, i < L.length ∧ cx L i = s := by
  obtain ⟨i, hi, rfl⟩ := List.getElem_of_mem h
  exact ⟨i, hi, by simp [cx, List.getD, hi]⟩

def chv (L : List ChT) : List Value := L.map ChT.val
@[simp] theorem chv_length (L : List ChT) : (chv L).length = L.length := by simp [chv]
def sgv : List SgT → List Value
  | [] => []
  | s :: L => .int .u64 (s.f : Int) :: .slice s.a s.ch.length s.c :: sgv L
@[simp] theorem sgv_length (L : List SgT) : (sgv L).length = L.length * 2 := by
  induction L with
  | nil => rfl
  | cons r L ih => simp [sgv, ih]; omega
theorem sgv_append (A B : List SgT) : sgv (A ++ B) = sgv A ++ sgv B := by
  induction A with
  | nil => rfl
  | cons r A ih => simp [sgv, ih]
theorem sgv_one (L : List SgT) : ∀ v ∈ sgv L, v.oneCell' = true := by
  induction L with
  | nil => intro v hv; cases hv
  | cons r L ih =>
    intro v hv
    simp only [sgv, List.mem_cons] at hv
    rcases hv with rfl | rfl | hv
    · rfl
    · rfl
    · exact ih v hv
theorem chv_one (L : List ChT) : ∀ v ∈ chv L, v.oneCell' = true := by
  intro v hv
  simp only [chv, List.mem_map] at hv
  obtain ⟨x, _, rfl⟩ := hv
  rfl
theorem sgv_get (L : List SgT) (i : Nat) : (sgv L)[i * 2]? = L[i]?.map (fun r => Value.int .u64 (r.f : Int)) ∧ (sgv L)[i * 2 + 1]? = L[i]?.map (fun r => Value.slice r.a r.ch.length r.c) := by
  induction L generalizing i with
  | nil => simp [sgv]
  | cons r L ih =>
    cases i with
    | zero => simp [sgv]
    | succ i => rw [show (i + 1) * 2 = i * 2 + 1 + 1 by omega]; simpa [sgv] using ih i
theorem Ro.sg {w : World} {B : Nat} {a : Option Addr} {L : List SgT} (h : Ro w B a (sgv L)) (hn : 0 < L.length) :
    ∃ b off, a = some ⟨b, off, none⟩ ∧ b < B ∧ ∀ i, i < L.length → w.cell? ⟨b, off + i * 2, none⟩ = some (.int .u64 ((st L i).f : Int)) ∧ w.cell? ⟨b, off + i * 2 + 1, none⟩ = some (.slice (st L i).a (st L i).ch.length (st L i).c) := by
  obtain ⟨b, off, h1, h2, h3⟩ := h.at_ (by intro e; have e2 := congrArg List.length e; simp at e2; omega)
  refine ⟨b, off, h1, h2, fun i hi => ?_⟩
  obtain ⟨e1, e2⟩ := sgv_get L i
  have es : L[i]? = some (st L i) := by simp [st, List.getD, hi]
  rw [es] at e1 e2
  have g1 := h3 (i * 2) (by simp; omega)
  have g2 := h3 (i * 2 + 1) (by simp; omega)
  simp only [List.getD, e1, e2, Option.map_some, Option.getD_some] at g1 g2
  exact ⟨g1, by rw [Nat.add_assoc]; exact g2⟩
theorem Ro.ch {w : World} {B : Nat} {a : Option Addr} {L : List ChT} (h : Ro w B a (chv L)) (hn : 0 < L.length) :
    ∃ b off, a = some ⟨b, off, none⟩ ∧ b < B ∧ ∀ i, i < L.length → w.cell? ⟨b, off + i, none⟩ = some (.slice (ct L i).a (ct L i).u.length (ct L i).c) := by
  obtain ⟨b, off, h1, h2, h3⟩ := h.at_ (by intro e; have e2 := congrArg List.length e; simp only [chv_length, List.length_nil] at e2; omega)
  refine ⟨b, off, h1, h2, fun i hi => ?_⟩
  rw [h3 i (by simpa using hi)]
  simp [chv, ct, List.getD, hi, ChT.val]

/-- chains, whose rows lie below B -/
def ChIn (w : World) (B : Nat) (L : List ChT) : Prop := ∀ c ∈ L, Ro w B c.a (i64s c.u)
/-- segments, likewise -/
def SgIn (w : World) (B : Nat) (L : List SgT) : Prop := ∀ s ∈ L, Ro w B s.a (chv s.ch) ∧ ChIn w B s.ch
/-- a layout, likewise -/
def LyIn (w : World) (B : Nat) (A : LyT) : Prop := Ro w B A.a (sgv A.sg) ∧ SgIn w B A.sg
theorem ChIn.below {w w' : World} {B B' : Nat} {L : List ChT} (h : ChIn w B L) (hb : Below B' w w') (hB : B ≤ B') : ChIn w' B L := fun c hc => (h c hc).below hb hB
theorem SgIn.below {w w' : World} {B B' : Nat} {L : List SgT} (h : SgIn w B L) (hb : Below B' w w') (hB : B ≤ B') : SgIn w' B L := fun s hs => ⟨(h s hs).1.below hb hB, (h s hs).2.below hb hB⟩
theorem LyIn.below {w w' : World} {B B' : Nat} {A : LyT} (h : LyIn w B A) (hb : Below B' w w') (hB : B ≤ B') : LyIn w' B A := ⟨h.1.below hb hB, h.2.below hb hB⟩
theorem ChIn.mono {w : World} {B B' : Nat} {L : List ChT} (h : ChIn w B L) (hB : B ≤ B') : ChIn w B' L := fun c hc => (h c hc).mono hB
theorem SgIn.mono {w : World} {B B' : Nat} {L : List SgT} (h : SgIn w B L) (hB : B ≤ B') : SgIn w B' L := fun s hs => ⟨(h s hs).1.mono hB, (h s hs).2.mono hB⟩
theorem LyIn.mono {w : World} {B B' : Nat} {A : LyT} (h : LyIn w B A) (hB : B ≤ B') : LyIn w B' A := ⟨h.1.mono hB, h.2.mono hB⟩
/-- no length is beyond a machine's -/
def ChFit (L : List ChT) : Prop := L.length ≤ 9223372036854775807 ∧ ∀ c ∈ L, c.u.length ≤ 9223372036854775807
def SgFit (L : List SgT) : Prop := L.length ≤ 9223372036854775807 ∧ ∀ s ∈ L, ChFit s.ch

/-! ### what is lright -/
/-- a unit that may not come behind these -/
def ubad (us : List Int) (u : Int) : Bool := !decide (0 ≤ u ∧ u < 32) || decide (u ∈ us)
/-- some unit of a chain may not -/
def cbadU (us c : List Int) : Bool := anyN (fun k => ubad (us ++ c.take k) (c.getD k 0)) c.length
def isLen (n : Nat) : Bool := decide (1 ≤ n ∧ n ≤ 4)
def cbad (us c : List Int) : Bool := !isLen c.length || cbadU us c
def chOk (L : List (List Int)) : Bool := isLen L.length && !anyN (fun k => cbad (L.take k).flatten (cx L k)) L.length
/-- the least From that may come ahead of the k-th -/
def leastF (L : List Sg) (k : Nat) : Nat := if k = 0 then 0 else ((sx L (k - 1)).1 + 1) % 18446744073709551616
def sbad (m : Nat) (s : Sg) : Bool := decide (s.1 < m) || (decide (1048576 ≤ s.1) || !chOk s.2)
def sgOk (L : List Sg) : Bool := isLen L.length && (decide ((sx L 0).1 = 0) && !anyN (fun k => sbad (leastF L k) (sx L k)) L.length)
def lright (x : Ly) : Bool := decide (1 ≤ x.e ∧ x.e ≤ 1048576) && (decide (0 ≤ x.q ∧ x.q < 32) && sgOk x.s)

theorem cbadU_iff {us c : List Int} (hus : us.Nodup) : cbadU us c = false ↔ (∀ u ∈ c, 0 ≤ u ∧ u < 32) ∧ (us ++ c).Nodup := by
  unfold cbadU
  rw [anyN_false]
  induction c generalizing us with
  | nil => simp [hus]
  | cons u c ih =>
    have e1 : (∀ j, j < (u :: c).length → ubad (us ++ (u :: c).take j) ((u :: c).getD j 0) = false) ↔ ubad us u = false ∧ ∀ j, j < c.length → ubad ((us ++ [u]) ++ c.take j) (c.getD j 0) = false := by
      constructor
      · intro h
        refine ⟨by simpa using h 0 (by simp), fun j hj => ?_⟩
        have := h (j + 1) (by simp; omega)
        simpa using this
      · rintro ⟨h1, h2⟩ j hj
        cases j with
        | zero => simpa using h1
        | succ j => have := h2 j (by simp at hj; omega); simpa using this
    rw [e1]
    unfold ubad
    simp only [Bool.or_eq_false_iff, Bool.not_eq_false', decide_eq_true_eq, decide_eq_false_iff_not]
    constructor
    · rintro ⟨⟨h1, h2⟩, h3⟩
      have hn : (us ++ [u]).Nodup := by rw [List.nodup_append]; exact ⟨hus, by simp, fun a ha b hb => by simp at hb; subst hb; intro e; subst e; exact h2 ha⟩
      have := (ih hn).1 (by simpa [ubad] using h3)
      refine ⟨fun x hx => ?_, by simpa using this.2⟩
      rcases List.mem_cons.1 hx with rfl | hx
      · exact h1
      · exact this.1 x hx
    · rintro ⟨h1, h2⟩
      have hs : us ++ u :: c = (us ++ [u]) ++ c := by simp
      rw [hs] at h2
      have hn : (us ++ [u]).Nodup := (List.nodup_append.1 h2).1
      refine ⟨⟨h1 u (by simp), fun hu => ?_⟩, ?_⟩
      · exact (List.nodup_append.1 hn).2.2 u hu u (by simp) rfl
      · have := (ih hn).2 ⟨fun x hx => h1 x (by simp [hx]), h2⟩
        simpa [ubad] using this
theorem isLen_iff {n : Nat} : isLen n = true ↔ 1 ≤ n ∧ n ≤ 4 := by simp [isLen]
theorem cbads_iff {us : List Int} (hus : us.Nodup) (L : List (List Int)) : (∀ k, k < L.length → cbad (us ++ (L.take k).flatten) (cx L k) = false) ↔ (∀ c ∈ L, 1 ≤ c.length ∧ c.length ≤ 4) ∧ (∀ u ∈ L.flatten, 0 ≤ u ∧ u < 32) ∧ (us ++ L.flatten).Nodup := by
  induction L generalizing us with
  | nil => simp [hus]
  | cons c L ih =>
    have e1 : (∀ k, k < (c :: L).length → cbad (us ++ ((c :: L).take k).flatten) (cx (c :: L) k) = false) ↔ cbad us c = false ∧ ∀ k, k < L.length → cbad ((us ++ c) ++ (L.take k).flatten) (cx L k) = false := by
      constructor
      · intro h
        refine ⟨by simpa [cx] using h 0 (by simp), fun j hj => ?_⟩
        have := h (j + 1) (by simp; omega)
        simpa [cx] using this
      · rintro ⟨h1, h2⟩ j hj
        cases j with
        | zero => simpa [cx] using h1
        | succ j => have := h2 j (by simp at hj; omega); simpa [cx] using this
    rw [e1]
    have e2 : cbad us c = false ↔ (1 ≤ c.length ∧ c.length ≤ 4) ∧ (∀ u ∈ c, 0 ≤ u ∧ u < 32) ∧ (us ++ c).Nodup := by
      unfold cbad
      rw [Bool.or_eq_false_iff, Bool.not_eq_false', isLen_iff, cbadU_iff hus]
    rw [e2]
    simp only [List.flatten_cons, List.mem_append, List.mem_cons]
    constructor
    · rintro ⟨⟨h1, h2, h3⟩, h4⟩
      obtain ⟨g1, g2, g3⟩ := (ih h3).1 h4
      refine ⟨?_, ?_, by simpa using g3⟩
      · rintro x (rfl | hx)
        · exact h1
        · exact g1 x hx
      · rintro u (hu | hu)
        · exact h2 u hu
        · exact g2 u hu
    · rintro ⟨h1, h2, h3⟩
      rw [← List.append_assoc] at h3
      have hn := (List.nodup_append.1 h3).1
      exact ⟨⟨h1 c (.inl rfl), fun u hu => h2 u (.inl hu), hn⟩, (ih hn).2 ⟨fun x hx => h1 x (.inr hx), fun u hu => h2 u (.inr hu), h3⟩⟩
theorem chOk_iff {L : List (List Int)} : chOk L = true ↔ (1 ≤ L.length ∧ L.length ≤ 4) ∧ (∀ c ∈ L, 1 ≤ c.length ∧ c.length ≤ 4) ∧ (∀ u ∈ L.flatten, 0 ≤ u ∧ u < 32) ∧ L.flatten.Nodup := by
  unfold chOk
  rw [Bool.and_eq_true, isLen_iff, Bool.not_eq_true', anyN_false]
  have := cbads_iff (us := []) (by simp) L
  simp only [List.nil_append] at this
  rw [this]
theorem sgOk_iff {L : List Sg} : sgOk L = true ↔ (1 ≤ L.length ∧ L.length ≤ 4) ∧ (sx L 0).1 = 0 ∧ (∀ i, i < L.length → (sx L i).1 < 1048576 ∧ chOk (sx L i).2 = true) ∧ ∀ i, i + 1 < L.length → (sx L i).1 < (sx L (i + 1)).1 := by
  unfold sgOk
  rw [Bool.and_eq_true, Bool.and_eq_true, isLen_iff, Bool.not_eq_true', anyN_false, decide_eq_true_eq]
  refine and_congr_right fun h1 => and_congr_right fun h2 => ?_
  unfold sbad
  simp only [Bool.or_eq_false_iff, decide_eq_false_iff_not, Bool.not_eq_false']
  constructor
  · intro h
    refine ⟨fun i hi => ⟨by have := (h i hi).2.1; omega, (h i hi).2.2⟩, fun i hi => ?_⟩
    have g1 := (h (i + 1) hi).1
    have g2 := (h i (by omega)).2.1
    unfold leastF at g1
    rw [if_neg (by omega), Nat.add_sub_cancel] at g1
    omega
  · rintro ⟨h3, h4⟩ j hj
    refine ⟨?_, by have := (h3 j hj).1; omega, (h3 j hj).2⟩
    unfold leastF
    split
    · omega
    · have := h4 (j - 1) (by omega)
      have g := (h3 (j - 1) (by omega)).1
      rw [show j - 1 + 1 = j by omega] at this
      omega
theorem lright_iff {x : Ly} : lright x = true ↔ (1 ≤ x.e ∧ x.e ≤ 1048576) ∧ (0 ≤ x.q ∧ x.q < 32) ∧ sgOk x.s = true := by
  unfold lright
  rw [Bool.and_eq_true, Bool.and_eq_true, decide_eq_true_eq, decide_eq_true_eq]
end Go.Proofs.Ytdblplkaobeimaa
namespace Go.Proofs.Ytdblplkaobeimaa
open Go.RowKit Go.Deep
set_option linter.unusedVariables false
set_option linter.unusedSimpArgs false

set_option maxHeartbeats 400000 in
theorem isUnit_any (n : Int) (w : World) :
    Calls Try.prog 56 #[.int .i64 n] w fun e w' => e = .returned (.bool (decide (0 ≤ n ∧ n < 32))) ∧ w' = w := by
  have h : (0 ≤ n ∧ n < 32) ∨ n < 0 ∨ 32 ≤ n := by omega
  rcases h with ⟨h1, h2⟩ | h1 | h1
  all_goals
    go_enter Try.func56, Try.ntmps56
    go_wp2
    go_ret
    refine ⟨?_, rfl⟩
    simp
    omega

set_option maxHeartbeats 400000 in
theorem within_seg (a : Option Addr) (n c : Nat) (w : World) (hn : n ≤ 9223372036854775807) :
    Calls Try.prog 68 #[.slice a n c, .int .i64 4] w fun e w' => e = .returned (.bool (isLen n)) ∧ w' = w := by
  have h : n = 0 ∨ (1 ≤ n ∧ n ≤ 4) ∨ 4 < n := by omega
  rcases h with rfl | ⟨h1, h2⟩ | h1
  · go_enter Try.func68, Try.ntmps68
    go_wp2
    go_ret
    exact ⟨rfl, rfl⟩
  · have e : isLen n = true := isLen_iff.2 ⟨h1, h2⟩
    rw [e]
    go_enter Try.func68, Try.ntmps68
    go_wp2
    go_ret
    refine ⟨?_, rfl⟩
    simp
    omega
  · have e : isLen n = false := by rw [← Bool.not_eq_true, isLen_iff]; omega
    rw [e]
    go_enter Try.func68, Try.ntmps68
    go_wp2
    go_ret
    refine ⟨?_, rfl⟩
    simp
    omega

set_option maxHeartbeats 400000 in
theorem within_ch (a : Option Addr) (n c : Nat) (w : World) (hn : n ≤ 9223372036854775807) :
    Calls Try.prog 75 #[.slice a n c, .int .i64 4] w fun e w' => e = .returned (.bool (isLen n)) ∧ w' = w := by
  have h : n = 0 ∨ (1 ≤ n ∧ n ≤ 4) ∨ 4 < n := by omega
  rcases h with rfl | ⟨h1, h2⟩ | h1
  · go_enter Try.func75, Try.ntmps75
    go_wp2
    go_ret
    exact ⟨rfl, rfl⟩
  · have e : isLen n = true := isLen_iff.2 ⟨h1, h2⟩
    rw [e]
    go_enter Try.func75, Try.ntmps75
    go_wp2
    go_ret
    refine ⟨?_, rfl⟩
    simp
    omega
  · have e : isLen n = false := by rw [← Bool.not_eq_true, isLen_iff]; omega
    rw [e]
    go_enter Try.func75, Try.ntmps75
    go_wp2
    go_ret
    refine ⟨?_, rfl⟩
    simp
    omega

set_option maxHeartbeats 400000 in
theorem within_int (a : Option Addr) (n c : Nat) (w : World) (hn : n ≤ 9223372036854775807) :
    Calls Try.prog 78 #[.slice a n c, .int .i64 4] w fun e w' => e = .returned (.bool (isLen n)) ∧ w' = w := by
  have h : n = 0 ∨ (1 ≤ n ∧ n ≤ 4) ∨ 4 < n := by omega
  rcases h with rfl | ⟨h1, h2⟩ | h1
  · go_enter Try.func78, Try.ntmps78
    go_wp2
    go_ret
    exact ⟨rfl, rfl⟩
  · have e : isLen n = true := isLen_iff.2 ⟨h1, h2⟩
    rw [e]
    go_enter Try.func78, Try.ntmps78
    go_wp2
    go_ret
    refine ⟨?_, rfl⟩
    simp
    omega
  · have e : isLen n = false := by rw [← Bool.not_eq_true, isLen_iff]; omega
    rw [e]
    go_enter Try.func78, Try.ntmps78
    go_wp2
    go_ret
    refine ⟨?_, rfl⟩
    simp
    omega

set_option maxHeartbeats 1000000 in
theorem index_seg (S : Nat → World → Prop) (T : World → Prop) (p : Nat → Bool) (g : Nat) (lb : Array Value) (eg : ∀ args w, (callFunc g args).run Try.prog w = .ok (.enter g args) w)
    (L : List SgT) (a : Option Addr) (c B : Nat) (w : World) (hl : L.length ≤ 1000000)
    (hro : ∀ k W, S k W → Ro W B a (sgv L)) (h0 : S 0 w)
    (hf : ∀ k W, k < L.length → S k W → Calls Try.prog g (#[(st L k).val] ++ lb) W fun e w' => e = .returned (.bool (p k)) ∧ (p k = true → T w') ∧ (p k = false → S (k + 1) w')) :
    Calls Try.prog 79 #[.slice a L.length c, .func (.func g) #[] lb] w fun e w' => e = .returned (.int .i64 (fx p L.length)) ∧ (T w' ∨ S L.length w') := by
  obtain ⟨n, HN⟩ : ∃ n, Hid (L.length = n) := ⟨_, Lib.hid rfl⟩
  have HR := Lib.hid hro
  have HF := Lib.hid hf
  have H0 := Lib.hid h0
  clear hro hf h0
  rw [HN.out] at hl ⊢
  go_enter Try.func79, Try.ntmps79
  go_wp2_with fail
  go_loopw [8] (fun i wr => ∃ k : Nat, k ≤ n ∧ i = .int .i64 (k : Int) ∧ Hid (S k wr) ∧ Hid (∀ j, j < k → p j = false)) (fun i _ => n - (intOf i).toNat)
  case atStart => exact ⟨0, Nat.zero_le _, rfl, H0, Lib.hid (by omega)⟩
  case round =>
    obtain ⟨k, hk, rfl, HS, HP⟩ := hrel
    by_cases hlt : k < n
    · have hkL : k < L.length := by rw [HN.out]; exact hlt
      obtain ⟨b, off, rfl, hb, hc⟩ := (HR.out k wr HS.out).sg (by omega)
      obtain ⟨c1, c2⟩ := hc k hkL
      have HC := Lib.hid (HF.out k wr hkL HS.out)
      clear hc
      have hk0 : (0 : Int) ≤ (k : Int) := by omega
      have hk1 : (k : Int) < (n : Int) := by omega
      simp only [SgT.val] at HC
      generalize (st L k).f = x1 at *
      generalize (st L k).a = x2 at *
      generalize (st L k).ch.length = x3 at *
      generalize (st L k).c = x4 at *
      cases hq : p k with
      | true =>
        have HQ := Lib.hid hq
        clear hq
        go_wp2_with fail
        refine HC.out.mono ?_
        rintro e w' ⟨rfl, hs, -⟩
        rw [HQ.out]
        have HS2 := Lib.hid (hs HQ.out)
        clear hs
        go_wp2_with fail
        go_ret
        exact ⟨ret_int (fx_hit p n k hlt HQ.out HP.out).symm, .inl HS2.out⟩
      | false =>
        have HQ := Lib.hid hq
        clear hq
        go_wp2_with fail
        refine HC.out.mono ?_
        rintro e w' ⟨rfl, -, hs⟩
        rw [HQ.out]
        have HS2 := Lib.hid (hs HQ.out)
        clear hs
        go_wp2_with fail
        go_roundw
        case rel =>
          refine ⟨k + 1, by omega, by go_num, HS2, Lib.hid fun j hj => ?_⟩
          by_cases e : j = k
          · subst e; exact HQ.out
          · exact HP.out j (by omega)
        case measure => simp [intOf]; omega
    · obtain rfl : k = n := by omega
      go_wp2_with fail
      go_ret
      exact ⟨ret_int (fx_miss p k HP.out).symm, .inr HS.out⟩

set_option maxHeartbeats 1000000 in
theorem contains_seg (S : Nat → World → Prop) (T : World → Prop) (p : Nat → Bool) (g : Nat) (lb : Array Value) (eg : ∀ args w, (callFunc g args).run Try.prog w = .ok (.enter g args) w)
    (L : List SgT) (a : Option Addr) (c B : Nat) (w : World) (hl : L.length ≤ 1000000)
    (hro : ∀ k W, S k W → Ro W B a (sgv L)) (h0 : S 0 w)
    (hf : ∀ k W, k < L.length → S k W → Calls Try.prog g (#[(st L k).val] ++ lb) W fun e w' => e = .returned (.bool (p k)) ∧ (p k = true → T w') ∧ (p k = false → S (k + 1) w')) :
    Calls Try.prog 69 #[.slice a L.length c, .func (.func g) #[] lb] w fun e w' => e = .returned (.bool (anyN p L.length)) ∧ (T w' ∨ S L.length w') := by
  have HC := Lib.hid (index_seg S T p g lb eg L a c B w hl hro h0 hf)
  clear hro h0 hf
  obtain ⟨z, hz⟩ : ∃ z, z = fx p L.length := ⟨_, rfl⟩
  unfold anyN
  rw [← hz] at HC ⊢
  clear hz
  go_enter Try.func69, Try.ntmps69
  go_wp2_with fail
  refine HC.out.mono ?_
  rintro e w' ⟨rfl, hs⟩
  have HS := Lib.hid hs
  clear hs
  go_wp2_with fail
  go_ret
  exact ⟨rfl, HS.out⟩

set_option maxHeartbeats 1000000 in
theorem index_ch (S : Nat → World → Prop) (T : World → Prop) (p : Nat → Bool) (g : Nat) (lb : Array Value) (eg : ∀ args w, (callFunc g args).run Try.prog w = .ok (.enter g args) w)
    (L : List ChT) (a : Option Addr) (c B : Nat) (w : World) (hl : L.length ≤ 1000000)
    (hro : ∀ k W, S k W → Ro W B a (chv L)) (h0 : S 0 w)
    (hf : ∀ k W, k < L.length → S k W → Calls Try.prog g (#[(ct L k).val] ++ lb) W fun e w' => e = .returned (.bool (p k)) ∧ (p k = true → T w') ∧ (p k = false → S (k + 1) w')) :
    Calls Try.prog 80 #[.slice a L.length c, .func (.func g) #[] lb] w fun e w' => e = .returned (.int .i64 (fx p L.length)) ∧ (T w' ∨ S L.length w') := by
  obtain ⟨n, HN⟩ : ∃ n, Hid (L.length = n) := ⟨_, Lib.hid rfl⟩
  have HR := Lib.hid hro
  have HF := Lib.hid hf
  have H0 := Lib.hid h0
  clear hro hf h0
  rw [HN.out] at hl ⊢
  go_enter Try.func80, Try.ntmps80
  go_wp2_with fail
  go_loopw [8] (fun i wr => ∃ k : Nat, k ≤ n ∧ i = .int .i64 (k : Int) ∧ Hid (S k wr) ∧ Hid (∀ j, j < k → p j = false)) (fun i _ => n - (intOf i).toNat)
  case atStart => exact ⟨0, Nat.zero_le _, rfl, H0, Lib.hid (by omega)⟩
  case round =>
    obtain ⟨k, hk, rfl, HS, HP⟩ := hrel
    by_cases hlt : k < n
    · have hkL : k < L.length := by rw [HN.out]; exact hlt
      obtain ⟨b, off, rfl, hb, hc⟩ := (HR.out k wr HS.out).ch (by omega)
      have c1 := hc k hkL
      have HC := Lib.hid (HF.out k wr hkL HS.out)
      clear hc
      have hk0 : (0 : Int) ≤ (k : Int) := by omega
      have hk1 : (k : Int) < (n : Int) := by omega
      simp only [ChT.val] at HC
      generalize (ct L k).a = x2 at *
      generalize (ct L k).u.length = x3 at *
      generalize (ct L k).c = x4 at *
      cases hq : p k with
      | true =>
        have HQ := Lib.hid hq
        clear hq
        go_wp2_with fail
        refine HC.out.mono ?_
        rintro e w' ⟨rfl, hs, -⟩
        rw [HQ.out]
        have HS2 := Lib.hid (hs HQ.out)
        clear hs
        go_wp2_with fail
        go_ret
        exact ⟨ret_int (fx_hit p n k hlt HQ.out HP.out).symm, .inl HS2.out⟩
      | false =>
        have HQ := Lib.hid hq
        clear hq
        go_wp2_with fail
        refine HC.out.mono ?_
        rintro e w' ⟨rfl, -, hs⟩
        rw [HQ.out]
        have HS2 := Lib.hid (hs HQ.out)
        clear hs
        go_wp2_with fail
        go_roundw
        case rel =>
          refine ⟨k + 1, by omega, by go_num, HS2, Lib.hid fun j hj => ?_⟩
          by_cases e : j = k
          · subst e; exact HQ.out
          · exact HP.out j (by omega)
        case measure => simp [intOf]; omega
    · obtain rfl : k = n := by omega
      go_wp2_with fail
      go_ret
      exact ⟨ret_int (fx_miss p k HP.out).symm, .inr HS.out⟩

set_option maxHeartbeats 1000000 in
theorem contains_ch (S : Nat → World → Prop) (T : World → Prop) (p : Nat → Bool) (g : Nat) (lb : Array Value) (eg : ∀ args w, (callFunc g args).run Try.prog w = .ok (.enter g args) w)
    (L : List ChT) (a : Option Addr) (c B : Nat) (w : World) (hl : L.length ≤ 1000000)
    (hro : ∀ k W, S k W → Ro W B a (chv L)) (h0 : S 0 w)
    (hf : ∀ k W, k < L.length → S k W → Calls Try.prog g (#[(ct L k).val] ++ lb) W fun e w' => e = .returned (.bool (p k)) ∧ (p k = true → T w') ∧ (p k = false → S (k + 1) w')) :
    Calls Try.prog 76 #[.slice a L.length c, .func (.func g) #[] lb] w fun e w' => e = .returned (.bool (anyN p L.length)) ∧ (T w' ∨ S L.length w') := by
  have HC := Lib.hid (index_ch S T p g lb eg L a c B w hl hro h0 hf)
  clear hro h0 hf
  obtain ⟨z, hz⟩ : ∃ z, z = fx p L.length := ⟨_, rfl⟩
  unfold anyN
  rw [← hz] at HC ⊢
  clear hz
  go_enter Try.func76, Try.ntmps76
  go_wp2_with fail
  refine HC.out.mono ?_
  rintro e w' ⟨rfl, hs⟩
  have HS := Lib.hid hs
  clear hs
  go_wp2_with fail
  go_ret
  exact ⟨rfl, HS.out⟩

set_option maxHeartbeats 1000000 in
theorem index_int (S : Nat → World → Prop) (T : World → Prop) (p : Nat → Bool) (g : Nat) (lb : Array Value) (eg : ∀ args w, (callFunc g args).run Try.prog w = .ok (.enter g args) w)
    (L : List Int) (a : Option Addr) (c B : Nat) (w : World) (hl : L.length ≤ 1000000)
    (hro : ∀ k W, S k W → Ro W B a (i64s L)) (h0 : S 0 w)
    (hf : ∀ k W, k < L.length → S k W → Calls Try.prog g (#[.int .i64 (L.getD k 0)] ++ lb) W fun e w' => e = .returned (.bool (p k)) ∧ (p k = true → T w') ∧ (p k = false → S (k + 1) w')) :
    Calls Try.prog 51 #[.slice a L.length c, .func (.func g) #[] lb] w fun e w' => e = .returned (.int .i64 (fx p L.length)) ∧ (T w' ∨ S L.length w') := by
  obtain ⟨n, HN⟩ : ∃ n, Hid (L.length = n) := ⟨_, Lib.hid rfl⟩
  have HR := Lib.hid hro
  have HF := Lib.hid hf
  have H0 := Lib.hid h0
  clear hro hf h0
  rw [HN.out] at hl ⊢
  go_enter Try.func51, Try.ntmps51
  go_wp2_with fail
  go_loopw [8] (fun i wr => ∃ k : Nat, k ≤ n ∧ i = .int .i64 (k : Int) ∧ Hid (S k wr) ∧ Hid (∀ j, j < k → p j = false)) (fun i _ => n - (intOf i).toNat)
  case atStart => exact ⟨0, Nat.zero_le _, rfl, H0, Lib.hid (by omega)⟩
  case round =>
    obtain ⟨k, hk, rfl, HS, HP⟩ := hrel
    by_cases hlt : k < n
    · have hkL : k < L.length := by rw [HN.out]; exact hlt
      obtain ⟨b, off, rfl, hb, hc⟩ := (HR.out k wr HS.out).i64 (by omega)
      have c1 := hc k hkL
      have HC := Lib.hid (HF.out k wr hkL HS.out)
      clear hc
      have hk0 : (0 : Int) ≤ (k : Int) := by omega
      have hk1 : (k : Int) < (n : Int) := by omega
      generalize L.getD k 0 = x1 at *
      cases hq : p k with
      | true =>
        have HQ := Lib.hid hq
        clear hq
        go_wp2_with fail
        refine HC.out.mono ?_
        rintro e w' ⟨rfl, hs, -⟩
        rw [HQ.out]
        have HS2 := Lib.hid (hs HQ.out)
        clear hs
        go_wp2_with fail
        go_ret
        exact ⟨ret_int (fx_hit p n k hlt HQ.out HP.out).symm, .inl HS2.out⟩
      | false =>
        have HQ := Lib.hid hq
        clear hq
        go_wp2_with fail
        refine HC.out.mono ?_
        rintro e w' ⟨rfl, -, hs⟩
        rw [HQ.out]
        have HS2 := Lib.hid (hs HQ.out)
        clear hs
        go_wp2_with fail
        go_roundw
        case rel =>
          refine ⟨k + 1, by omega, by go_num, HS2, Lib.hid fun j hj => ?_⟩
          by_cases e : j = k
          · subst e; exact HQ.out
          · exact HP.out j (by omega)
        case measure => simp [intOf]; omega
    · obtain rfl : k = n := by omega
      go_wp2_with fail
      go_ret
      exact ⟨ret_int (fx_miss p k HP.out).symm, .inr HS.out⟩

set_option maxHeartbeats 1000000 in
theorem contains_int (S : Nat → World → Prop) (T : World → Prop) (p : Nat → Bool) (g : Nat) (lb : Array Value) (eg : ∀ args w, (callFunc g args).run Try.prog w = .ok (.enter g args) w)
    (L : List Int) (a : Option Addr) (c B : Nat) (w : World) (hl : L.length ≤ 1000000)
    (hro : ∀ k W, S k W → Ro W B a (i64s L)) (h0 : S 0 w)
    (hf : ∀ k W, k < L.length → S k W → Calls Try.prog g (#[.int .i64 (L.getD k 0)] ++ lb) W fun e w' => e = .returned (.bool (p k)) ∧ (p k = true → T w') ∧ (p k = false → S (k + 1) w')) :
    Calls Try.prog 32 #[.slice a L.length c, .func (.func g) #[] lb] w fun e w' => e = .returned (.bool (anyN p L.length)) ∧ (T w' ∨ S L.length w') := by
  have HC := Lib.hid (index_int S T p g lb eg L a c B w hl hro h0 hf)
  clear hro h0 hf
  obtain ⟨z, hz⟩ : ∃ z, z = fx p L.length := ⟨_, rfl⟩
  unfold anyN
  rw [← hz] at HC ⊢
  clear hz
  go_enter Try.func32, Try.ntmps32
  go_wp2_with fail
  refine HC.out.mono ?_
  rintro e w' ⟨rfl, hs⟩
  have HS := Lib.hid hs
  clear hs
  go_wp2_with fail
  go_ret
  exact ⟨rfl, HS.out⟩
end Go.Proofs.Ytdblplkaobeimaa
namespace Go.Proofs.Ytdblplkaobeimaa
open Go.RowKit Go.Deep Go.Shelf
set_option linter.unusedVariables false
set_option linter.unusedSimpArgs false

/-- which units there were, one by one -/
def fl (us : List Int) : List Value := (List.range 32).map fun (k : Nat) => Value.bool (decide ((k : Int) ∈ us))
@[simp] theorem fl_length (us : List Int) : (fl us).length = 32 := by simp [fl]
theorem fl_get (us : List Int) (i : Nat) (h : i < 32) : (fl us)[i]? = some (.bool (decide ((i : Int) ∈ us))) := by simp [fl, h]
theorem fl_set (us : List Int) (i : Nat) (h : i < 32) : (fl us).set i (.bool true) = fl (us ++ [(i : Int)]) := by
  apply List.ext_getElem (by simp)
  intro j h1 h2
  simp only [List.length_set, fl_length] at h1
  rw [List.getElem_set]
  by_cases e : i = j
  · subst e; simp [fl]
  · simp [fl, e, show ¬ (j : Int) = (i : Int) by omega]
theorem grown_trans {a b c : World} {r : Option Nat} (h : a.grownBy b r) (k : b.grownBy c r) : a.grownBy c r :=
  ⟨k.os.trans h.os, k.tape.trans h.tape, k.output.trans h.output, Nat.le_trans h.size k.size, fun x hx hne => (k.block x (Nat.lt_of_lt_of_le hx h.size) hne).trans (h.block x hx hne)⟩
theorem grown_below' {w w' : World} {g : Nat} (h : w.grownBy w' (some g)) (hg : g ≤ w.heap.size) : Below g w w' := below_only (Below.refl _ _) h (Nat.le_refl _) hg
theorem grown_cell {w w' : World} {g gw o : Nat} {v : Value} (h : w.grownBy w' (some g)) (hc : w.cell? ⟨gw, o, none⟩ = some v) (hne : gw ≠ g) : w'.cell? ⟨gw, o, none⟩ = some v := by
  have hlt := World.block_lt_of_cell? _ _ hc
  have := h.block gw hlt (by intro e; injection e with e; exact hne e)
  rw [← hc]
  simp only [World.cell?, this]

set_option maxHeartbeats 400000 in
theorem rc1_any (u : Int) (us : List Int) (g : Nat) (w : World) (h : Own w g 109 (fl us)) :
    Calls Try.prog 74 #[.int .i64 u, .pointer (some ⟨g, 0, none⟩)] w fun e w' => e = .returned (.bool (ubad us u)) ∧ (ubad us u = false → Own w' g 109 (fl (us ++ [u]))) ∧ w.grownBy w' (some g) := by
  have HU := Lib.hid (isUnit_any u w)
  by_cases hu : 0 ≤ u ∧ u < 32
  · obtain ⟨k, rfl⟩ := Int.eq_ofNat_of_zero_le hu.1
    have hk : k < 32 := by omega
    have hc := (h.cell k).trans (fl_get us k hk)
    have hf := h.frozen k
    have e : decide (0 ≤ (k : Int) ∧ (k : Int) < 32) = true := by simp; omega
    rw [e] at HU
    have e1 : ubad us (k : Int) = decide ((k : Int) ∈ us) := by unfold ubad; rw [e]; simp
    rw [e1]
    have HO := Lib.hid h
    have h0 : (0 : Int) ≤ (k : Int) := by omega
    have h1 : (k : Int) < 32 := by omega
    clear hu e e1 h
    cases hd : decide ((k : Int) ∈ us) with
    | true =>
      rw [hd] at hc
      clear hd
      go_enter Try.func74, Try.ntmps74
      go_wp2_with fail
      refine HU.out.mono ?_
      rintro e w' ⟨rfl, rfl⟩
      go_wp2_with fail
      go_ret
      exact ⟨rfl, by simp, World.grownBy.refl _ _⟩
    | false =>
      rw [hd] at hc
      clear hd
      go_enter Try.func74, Try.ntmps74
      go_wp2_with fail
      refine HU.out.mono ?_
      rintro e w' ⟨rfl, rfl⟩
      go_wp2_with fail
      go_ret
      refine ⟨rfl, fun _ => ?_, only_set (World.grownBy.refl _ _) _ _⟩
      rw [← fl_set us k hk]
      exact HO.out.set k _
  · have e : decide (0 ≤ u ∧ u < 32) = false := by simpa using hu
    have e1 : ubad us u = true := by unfold ubad; rw [e]; simp
    rw [e] at HU
    rw [e1]
    clear hu e e1 h
    go_enter Try.func74, Try.ntmps74
    go_wp2_with fail
    refine HU.out.mono ?_
    rintro e w' ⟨rfl, rfl⟩
    go_wp2_with fail
    go_ret
    exact ⟨rfl, by simp, World.grownBy.refl _ _⟩

theorem rc1_in (A : ChT) (us : List Int) (g B : Nat) (w : World) (h : Own w g 109 (fl us)) (hro : Ro w B A.a (i64s A.u)) (hB : B ≤ g) (hl : A.u.length ≤ 1000000) :
    Calls Try.prog 32 #[.slice A.a A.u.length A.c, .func (.func 74) #[] #[.pointer (some ⟨g, 0, none⟩)]] w fun e w' => e = .returned (.bool (cbadU us A.u)) ∧ (cbadU us A.u = false → Own w' g 109 (fl (us ++ A.u))) ∧ w.grownBy w' (some g) := by
  have eg : ∀ args w, (callFunc 74 args).run Try.prog w = .ok (.enter 74 args) w := enters_of Try.func74 (by kernel_rfl) rfl
  have hg := h.lt
  refine (contains_int (fun k W => Own W g 109 (fl (us ++ A.u.take k)) ∧ w.grownBy W (some g) ∧ ∀ j, j < k → ubad (us ++ A.u.take j) (A.u.getD j 0) = false) (fun W => w.grownBy W (some g) ∧ cbadU us A.u = true) (fun k => ubad (us ++ A.u.take k) (A.u.getD k 0)) 74 #[.pointer (some ⟨g, 0, none⟩)] eg A.u A.a A.c B w hl (fun k W hS => hro.below (grown_below' hS.2.1 (by omega)) hB) ⟨by simpa using h, World.grownBy.refl _ _, by omega⟩ (fun k W hk hS => ?_)).mono ?_
  · obtain ⟨h1, h2, h3⟩ := hS
    refine (rc1_any (A.u.getD k 0) (us ++ A.u.take k) g W h1).mono ?_
    rintro e w' ⟨rfl, g1, g2⟩
    refine ⟨rfl, fun hp => ⟨grown_trans h2 g2, ?_⟩, fun hp => ⟨?_, grown_trans h2 g2, fun j hj => ?_⟩⟩
    · rw [← Bool.not_eq_false]
      intro hc
      have := anyN_false.1 hc k hk
      rw [this] at hp; cases hp
    · have := g1 hp
      rwa [List.append_assoc, show A.u.take k ++ [A.u.getD k 0] = A.u.take (k + 1) by rw [List.take_succ_eq_append_getElem hk]; simp [List.getD, hk]] at this
    · by_cases e : j = k
      · subst e; exact hp
      · exact h3 j (by omega)
  · rintro e w' ⟨rfl, hT | ⟨h1, h2, h3⟩⟩
    · exact ⟨rfl, fun hc => (by rw [hT.2] at hc; cases hc), hT.1⟩
    · exact ⟨rfl, fun hc => by simpa using h1, h2⟩

set_option maxHeartbeats 400000 in
theorem rc2_any (A : ChT) (us : List Int) (g gw B : Nat) (w : World) (h : Own w g 109 (fl us)) (hw : w.cell? ⟨gw, 0, none⟩ = some (.func (.func 74) #[] #[.pointer (some ⟨g, 0, none⟩)])) (hro : Ro w B A.a (i64s A.u)) (hB : B ≤ g) (hl : A.u.length ≤ 9223372036854775807) :
    Calls Try.prog 77 #[A.val, .pointer (some ⟨gw, 0, none⟩)] w fun e w' => e = .returned (.bool (cbad us A.u)) ∧ (cbad us A.u = false → Own w' g 109 (fl (us ++ A.u))) ∧ w.grownBy w' (some g) := by
  have HW := Lib.hid (within_int A.a A.u.length A.c w hl)
  have HC := Lib.hid (fun hl => rc1_in A us g B w h hro hB hl)
  unfold cbad
  simp only [ChT.val]
  cases hi : isLen A.u.length with
  | true =>
    rw [hi] at HW
    have hl2 := isLen_iff.1 hi
    replace HC := Lib.hid (HC.out (by omega))
    clear hi hl2 hl hro h
    generalize cbadU us A.u = t at *
    generalize A.u.length = n at *
    go_enter Try.func77, Try.ntmps77
    go_wp2_with fail
    refine HW.out.mono ?_
    rintro e w' ⟨rfl, rfl⟩
    go_wp2_with fail
    refine HC.out.mono ?_
    rintro e w' ⟨rfl, h1, h2⟩
    have H1 := Lib.hid h1
    have H2 := Lib.hid h2
    clear h1 h2
    go_wp2_with fail
    go_ret
    exact ⟨by simp, by simpa using H1.out, H2.out⟩
  | false =>
    rw [hi] at HW
    clear hi HC hl hro h
    generalize A.u.length = n at *
    go_enter Try.func77, Try.ntmps77
    go_wp2_with fail
    refine HW.out.mono ?_
    rintro e w' ⟨rfl, rfl⟩
    go_wp2_with fail
    go_ret
    exact ⟨rfl, by simp, World.grownBy.refl _ _⟩
theorem rc2_in (L : List ChT) (a : Option Addr) (c g gw B : Nat) (w : World) (h : Own w g 109 (fl [])) (hw : w.cell? ⟨gw, 0, none⟩ = some (.func (.func 74) #[] #[.pointer (some ⟨g, 0, none⟩)])) (hne : gw ≠ g) (hro : Ro w B a (chv L)) (hin : ChIn w B L) (hB : B ≤ g) (hl : L.length ≤ 1000000) (hf : ChFit L) :
    Calls Try.prog 76 #[.slice a L.length c, .func (.func 77) #[] #[.pointer (some ⟨gw, 0, none⟩)]] w fun e w' => e = .returned (.bool (anyN (fun k => cbad ((chx L).take k).flatten (cx (chx L) k)) L.length)) ∧ w.grownBy w' (some g) := by
  have eg : ∀ args w, (callFunc 77 args).run Try.prog w = .ok (.enter 77 args) w := enters_of Try.func77 (by kernel_rfl) rfl
  have hg := h.lt
  refine (contains_ch (fun k W => Own W g 109 (fl ((chx L).take k).flatten) ∧ w.grownBy W (some g)) (fun W => w.grownBy W (some g)) (fun k => cbad ((chx L).take k).flatten (cx (chx L) k)) 77 #[.pointer (some ⟨gw, 0, none⟩)] eg L a c B w hl (fun k W hS => hro.below (grown_below' hS.2 (by omega)) hB) ⟨by simpa using h, World.grownBy.refl _ _⟩ (fun k W hk hS => ?_)).mono ?_
  · obtain ⟨h1, h2⟩ := hS
    refine (rc2_any (ct L k) _ g gw B W h1 (grown_cell h2 hw hne) ((hin _ (ct_mem hk)).below (grown_below' h2 (by omega)) hB) hB (hf.2 _ (ct_mem hk))).mono ?_
    rintro e w' ⟨rfl, g1, g2⟩
    simp only [cx_chx]
    refine ⟨trivial, fun hp => grown_trans h2 g2, fun hp => ⟨?_, grown_trans h2 g2⟩⟩
    have := g1 hp
    rw [cx_take (by simpa using hk), cx_chx]
    simpa using this
  · rintro e w' ⟨rfl, hT | ⟨h1, h2⟩⟩
    · exact ⟨rfl, hT⟩
    · exact ⟨rfl, h2⟩

set_option maxHeartbeats 400000 in
theorem rightChains_any (L : List ChT) (a : Option Addr) (c B : Nat) (w : World) (hro : Ro w B a (chv L)) (hin : ChIn w B L) (hB : B ≤ w.heap.size) (hf : ChFit L) :
    Calls Try.prog 67 #[.slice a L.length c] w fun e w' => e = .returned (.bool (chOk (chx L))) ∧ Below w.heap.size w w' := by
  have HW := Lib.hid (fun W => within_ch a L.length c W hf.1)
  have efl : (fl []).toArray = #[.bool false, .bool false, .bool false, .bool false, .bool false, .bool false, .bool false, .bool false, .bool false, .bool false, .bool false, .bool false, .bool false, .bool false, .bool false, .bool false, .bool false, .bool false, .bool false, .bool false, .bool false, .bool false, .bool false, .bool false, .bool false, .bool false, .bool false, .bool false, .bool false, .bool false, .bool false, .bool false] := by simp [fl, List.range, List.range.loop]
  obtain ⟨W0, HW0⟩ : ∃ W0, Hid (w.alloc (.cells (fl []).toArray 109) = W0) := ⟨_, Lib.hid rfl⟩
  have hz0 : W0.heap.size = w.heap.size + 1 := by rw [← HW0.out]; simp
  obtain ⟨W, HWW⟩ : ∃ W, Hid (W0.alloc (.cells #[.func (.func 74) #[] #[.pointer (some ⟨w.heap.size, 0, none⟩)]] 72) = W) := ⟨_, Lib.hid rfl⟩
  have hb0 : Below w.heap.size w W0 := by rw [← HW0.out]; exact (Below.refl _ _).alloc (Nat.le_refl _) _
  have hWb : Below w.heap.size w W := by rw [← HWW.out]; exact hb0.alloc (by omega) _
  have o0 : Own W0 w.heap.size 109 (fl []) := by rw [← HW0.out]; exact Own.new w _ _
  have o1 : Own W w.heap.size 109 (fl []) := by rw [← HWW.out]; exact o0.alloc _
  have o2 : W.cell? ⟨W0.heap.size, 0, none⟩ = some (.func (.func 74) #[] #[.pointer (some ⟨w.heap.size, 0, none⟩)]) := by
    rw [← HWW.out]
    simp
  have HC := Lib.hid (fun hl => rc2_in L a c w.heap.size W0.heap.size B W o1 o2 (by omega) (hro.below hWb hB) (hin.below hWb hB) hB hl hf)
  have HB := Lib.hid hWb
  rw [efl] at HW0
  unfold chOk
  rw [chx_length]
  generalize anyN (fun k => cbad ((chx L).take k).flatten (cx (chx L) k)) L.length = t at *
  clear hz0 hb0 o0
  cases hi : isLen L.length with
  | true =>
    rw [hi] at HW
    have hl2 := isLen_iff.1 hi
    replace HC := Lib.hid (HC.out (by omega))
    clear hi hl2 hro hf o1 o2 hWb hin efl
    generalize L.length = n at *
    go_enter Try.func67, Try.ntmps67
    go_upto_region 2 with fail
    rw [HW0.out]
    go_wp2_with fail
    refine (HW.out _).mono ?_
    rintro e w' ⟨rfl, rfl⟩
    go_wp2_with fail
    rw [HWW.out]
    refine HC.out.mono ?_
    rintro e w' ⟨rfl, h2⟩
    have H2 := Lib.hid (below_only HB.out h2 (Nat.le_refl _) HB.out.size)
    clear h2
    go_wp2_with fail
    go_ret
    exact ⟨by simp, H2.out⟩
  | false =>
    rw [hi] at HW
    clear hi HC hro hf o1 o2 hWb hin efl
    generalize L.length = n at *
    go_enter Try.func67, Try.ntmps67
    go_upto_region 2 with fail
    rw [HW0.out]
    go_wp2_with fail
    refine (HW.out _).mono ?_
    rintro e w' ⟨rfl, rfl⟩
    go_wp2_with fail
    go_ret
    exact ⟨rfl, by rw [HWW.out]; exact HB.out⟩

theorem wrap_u64_mod (n : Nat) : IntKind.u64.wrap ((n : Int) + 1) = (((n + 1) % 18446744073709551616 : Nat) : Int) := by rw [IntKind.wrap_u64]; omega
set_option maxHeartbeats 400000 in
theorem rs1_any (A : SgT) (m g B : Nat) (w : World) (h : Own w g 26 [.int .u64 (m : Int)]) (hro : Ro w B A.a (chv A.ch)) (hin : ChIn w B A.ch) (hB : B ≤ g) (hf : ChFit A.ch) :
    Calls Try.prog 66 #[A.val, .pointer (some ⟨g, 0, none⟩)] w fun e w' => e = .returned (.bool (sbad m A.x)) ∧ Own w' g 26 [.int .u64 (((A.f + 1) % 18446744073709551616 : Nat) : Int)] ∧ Below g w w' := by
  obtain ⟨f, a, c, L⟩ := A
  simp only [SgT.val, SgT.x] at hro hin hf ⊢
  have hg := h.lt
  have HO := Lib.hid h
  have hc := h.cell 0
  have hfz := h.frozen 0
  simp at hc
  have ew := wrap_u64_mod f
  have HE := Lib.hid ew
  clear ew
  obtain ⟨t, HT⟩ : ∃ t, Hid (chOk (chx L) = t) := ⟨_, Lib.hid rfl⟩
  have HR := Lib.hid (fun (W : World) (hb : Below g w W) (hs : B ≤ W.heap.size) => rightChains_any L a c B W (hro.below hb hB) (hin.below hb hB) hs hf)
  rw [HT.out] at HR
  clear h hro hin hf
  obtain ⟨u, HU⟩ : ∃ u, Hid (sbad m (f, chx L) = u) := ⟨_, Lib.hid rfl⟩
  rw [HU.out]
  generalize L.length = n at *
  by_cases e1 : f < m
  · obtain rfl : u = true := by rw [← HU.out]; simp [sbad, e1]
    have e1' : (f : Int) < (m : Int) := by omega
    clear e1
    go_enter Try.func66, Try.ntmps66
    go_wp2_with fail
    go_ret
    refine ⟨rfl, ?_, ((Below.refl g w).setCell (Nat.le_refl _) _).alloc (by simp [set_size]; omega) _⟩
    first | rw [← HE.out] | rw [show ((f : Int) + 1) % 18446744073709551616 = IntKind.u64.wrap ((f : Int) + 1) by rw [IntKind.wrap_u64]]
    exact (HO.out.set 0 _).alloc _
  by_cases e2 : 1048576 ≤ f
  · obtain rfl : u = true := by rw [← HU.out]; simp [sbad, e2]
    have e1' : ¬ (f : Int) < (m : Int) := by omega
    have e2' : (1048576 : Int) ≤ (f : Int) := by omega
    clear e1 e2
    go_enter Try.func66, Try.ntmps66
    go_wp2_with fail
    go_ret
    refine ⟨rfl, ?_, ((Below.refl g w).setCell (Nat.le_refl _) _).alloc (by simp [set_size]; omega) _⟩
    first | rw [← HE.out] | rw [show ((f : Int) + 1) % 18446744073709551616 = IntKind.u64.wrap ((f : Int) + 1) by rw [IntKind.wrap_u64]]
    exact (HO.out.set 0 _).alloc _
  obtain rfl : u = !t := by rw [← HU.out]; simp [sbad, e1, e2, HT.out]
  have e1' : ¬ (f : Int) < (m : Int) := by omega
  have e2' : ¬ (1048576 : Int) ≤ (f : Int) := by omega
  clear e1 e2
  go_enter Try.func66, Try.ntmps66
  go_wp2_with fail
  refine (HR.out _ ((Below.refl g w).alloc (by omega) _) (by simp; omega)).mono ?_
  rintro e w' ⟨rfl, hb⟩
  have HB := Lib.hid hb
  have o1 : Own w' w.heap.size 91 [.int .u64 (f : Int), .slice a n c] := (Own.new w 91 [.int .u64 (f : Int), .slice a n c]).below hb (by simp)
  have o2 : Own w' g 26 [.int .u64 (m : Int)] := (HO.out.alloc _).below hb (by simp; omega)
  have hz := o1.lt
  have c1 := o1.cell 0
  have c2 := o2.cell 0
  have c3 := o2.frozen 0
  simp at c1 c2
  have HO2 := Lib.hid o2
  clear hb o1 o2 hc hfz
  go_wp2_with fail
  go_ret
  refine ⟨rfl, ?_, (((Below.refl g w).alloc (by omega) _).trans (HB.out.mono (by simp; omega))).setCell (Nat.le_refl _) _⟩
  first
    | rw [show (((f + 1) % 18446744073709551616 : Nat) : Int) = (f : Int) + 1 by omega]
    | rw [show ((f : Int) + 1) % 18446744073709551616 = (f : Int) + 1 by omega]
  exact HO2.out.set 0 _

theorem rs1_in (L : List SgT) (a : Option Addr) (c g B : Nat) (w : World) (h : Own w g 26 [.int .u64 0]) (hro : Ro w B a (sgv L)) (hin : SgIn w B L) (hB : B ≤ g) (hl : L.length ≤ 1000000) (hf : SgFit L) :
    Calls Try.prog 69 #[.slice a L.length c, .func (.func 66) #[] #[.pointer (some ⟨g, 0, none⟩)]] w fun e w' => e = .returned (.bool (anyN (fun k => sbad (leastF (sgx L) k) (sx (sgx L) k)) L.length)) ∧ Below g w w' := by
  have eg : ∀ args w, (callFunc 66 args).run Try.prog w = .ok (.enter 66 args) w := enters_of Try.func66 (by kernel_rfl) rfl
  have hg := h.lt
  refine (contains_seg (fun k W => Own W g 26 [.int .u64 (leastF (sgx L) k : Nat)] ∧ Below g w W) (fun W => Below g w W) (fun k => sbad (leastF (sgx L) k) (sx (sgx L) k)) 66 #[.pointer (some ⟨g, 0, none⟩)] eg L a c B w hl (fun k W hS => hro.below hS.2 hB) ⟨by simpa [leastF] using h, Below.refl _ _⟩ (fun k W hk hS => ?_)).mono ?_
  · obtain ⟨h1, h2⟩ := hS
    have hs := hin _ (st_mem hk)
    refine (rs1_any (st L k) _ g B W h1 (hs.1.below h2 hB) (hs.2.below h2 hB) hB (hf.2 _ (st_mem hk))).mono ?_
    rintro e w' ⟨rfl, g1, g2⟩
    rw [sx_sgx]
    refine ⟨rfl, fun hp => h2.trans g2, fun hp => ⟨?_, h2.trans g2⟩⟩
    have e : leastF (sgx L) (k + 1) = ((st L k).f + 1) % 18446744073709551616 := by
      unfold leastF
      rw [if_neg (by omega), Nat.add_sub_cancel, sx_sgx]
      rfl
    rw [e]
    exact g1
  · rintro e w' ⟨rfl, hT | ⟨h1, h2⟩⟩
    · exact ⟨rfl, hT⟩
    · exact ⟨rfl, h2⟩

set_option maxHeartbeats 400000 in
theorem rightSegments_any (L : List SgT) (a : Option Addr) (c B : Nat) (w : World) (hro : Ro w B a (sgv L)) (hin : SgIn w B L) (hB : B ≤ w.heap.size) (hf : SgFit L) :
    Calls Try.prog 57 #[.slice a L.length c] w fun e w' => e = .returned (.bool (sgOk (sgx L))) ∧ Below w.heap.size w w' := by
  have HW := Lib.hid (fun W => within_seg a L.length c W hf.1)
  obtain ⟨W, HWW⟩ : ∃ W, Hid (w.alloc (.cells #[.int .u64 0] 26) = W) := ⟨_, Lib.hid rfl⟩
  have hWb : Below w.heap.size w W := by rw [← HWW.out]; exact (Below.refl _ _).alloc (Nat.le_refl _) _
  have o1 : Own W w.heap.size 26 [.int .u64 0] := by rw [← HWW.out]; exact Own.new w _ _
  have HC := Lib.hid (fun hl => rs1_in L a c w.heap.size B W o1 (hro.below hWb hB) (hin.below hWb hB) hB hl hf)
  have HB := Lib.hid hWb
  unfold sgOk
  rw [sgx_length, sx_sgx]
  generalize anyN (fun k => sbad (leastF (sgx L) k) (sx (sgx L) k)) L.length = t at *
  cases hi : isLen L.length with
  | true =>
    rw [hi] at HW
    have hl2 := isLen_iff.1 hi
    replace HC := Lib.hid (HC.out (by omega))
    obtain ⟨b, off, rfl, hb, hc⟩ := (hro.below hWb hB).sg (by omega)
    have hc0 := (hc 0 (by omega)).1
    rw [Nat.zero_mul, Nat.add_zero, ← HWW.out] at hc0
    have hn1 : (1 : Int) ≤ (L.length : Int) := by omega
    have hf0 : (st L 0).x.1 = (st L 0).f := rfl
    rw [hf0]
    clear hf0
    clear hi hl2 hro hf o1 hWb hin hc
    generalize (st L 0).f = f at *
    generalize L.length = n at *
    by_cases h0 : f = 0
    · subst h0
      go_enter Try.func57, Try.ntmps57
      go_wp2_with fail
      refine (HW.out _).mono ?_
      rintro e w' ⟨rfl, rfl⟩
      go_wp2_with fail
      rw [HWW.out]
      refine HC.out.mono ?_
      rintro e w' ⟨rfl, h2⟩
      have H2 := Lib.hid (HB.out.trans h2)
      clear h2
      go_wp2_with fail
      go_ret
      exact ⟨by simp, H2.out⟩
    · have h0' : ((f : Int) == 0) = false := by rw [beq_eq_false_iff_ne]; omega
      have e : decide (f = 0) = false := by simpa using h0
      rw [e]
      clear h0 e
      go_enter Try.func57, Try.ntmps57
      go_wp2_with fail
      refine (HW.out _).mono ?_
      rintro e w' ⟨rfl, rfl⟩
      go_wp2_with fail
      go_ret
      exact ⟨rfl, by rw [HWW.out]; exact HB.out⟩
  | false =>
    rw [hi] at HW
    clear hi HC hro hf o1 hWb hin
    generalize decide ((st L 0).x.1 = 0) = u at *
    generalize L.length = n at *
    go_enter Try.func57, Try.ntmps57
    go_wp2_with fail
    refine (HW.out _).mono ?_
    rintro e w' ⟨rfl, rfl⟩
    go_wp2_with fail
    go_ret
    exact ⟨rfl, by rw [HWW.out]; exact HB.out⟩

set_option maxHeartbeats 400000 in
theorem lright_any (A : LyT) (B : Nat) (w : World) (h : LyIn w B A) (hB : B ≤ w.heap.size) (hf : SgFit A.sg) :
    Calls Try.prog 38 #[A.val] w fun e w' => e = .returned (.bool (lright A.x)) ∧ Below w.heap.size w w' := by
  obtain ⟨ep, a, c, L, q⟩ := A
  simp only [LyT.val, LyT.x] at *
  obtain ⟨W, HWW⟩ : ∃ W, Hid (w.alloc (.cells #[.int .u64 (ep : Int), .slice a L.length c, .int .i64 q] 38) = W) := ⟨_, Lib.hid rfl⟩
  have hWb : Below w.heap.size w W := by rw [← HWW.out]; exact (Below.refl _ _).alloc (Nat.le_refl _) _
  have h1 := h.below hWb hB
  have HU := Lib.hid (isUnit_any q W)
  have HR := Lib.hid (rightSegments_any L a c B W h1.1 h1.2 (Nat.le_trans hB hWb.size) hf)
  have HB := Lib.hid hWb
  have o1 : Own W w.heap.size 38 [.int .u64 (ep : Int), .slice a L.length c, .int .i64 q] := by rw [← HWW.out]; exact Own.new w _ _
  unfold lright
  simp only
  generalize sgOk (sgx L) = t at *
  generalize decide (0 ≤ q ∧ q < 32) = u at *
  generalize L.length = n at *
  have hz := o1.lt
  clear h1 hWb h hf hB o1
  have HK : 1 ≤ ep ∧ ep ≤ 1048576 ∨ ep < 1 ∨ 1048576 < ep := by omega
  rcases HK with ⟨k1, k2⟩ | k1 | k1
  · have e : decide (1 ≤ ep ∧ ep ≤ 1048576) = true := by simp; omega
    rw [e]
    have k1' : (1 : Int) ≤ (ep : Int) := by omega
    have k2' : (ep : Int) ≤ 1048576 := by omega
    clear e k1 k2
    cases u with
    | true =>
      go_enter Try.func38, Try.ntmps38
      go_wp2_with fail
      rw [HWW.out]
      refine HU.out.mono ?_
      rintro e w' ⟨rfl, rfl⟩
      rw [← HWW.out]
      go_wp2_with fail
      rw [HWW.out]
      refine HR.out.mono ?_
      rintro e w' ⟨rfl, h2⟩
      have H2 := Lib.hid (HB.out.trans (h2.mono HB.out.size))
      clear h2
      go_wp2_with fail
      go_ret
      exact ⟨by simp, H2.out⟩
    | false =>
      go_enter Try.func38, Try.ntmps38
      go_wp2_with fail
      rw [HWW.out]
      refine HU.out.mono ?_
      rintro e w' ⟨rfl, rfl⟩
      rw [← HWW.out]
      go_wp2_with fail
      go_ret
      exact ⟨rfl, by rw [HWW.out]; exact HB.out⟩
  all_goals
    have e : decide (1 ≤ ep ∧ ep ≤ 1048576) = false := by simp; omega
    rw [e]
    first
      | (have k1' : (ep : Int) < 1 := by omega)
      | (have k1' : 1048576 < (ep : Int) := by omega)
    have k2' : 1048576 < (ep : Int) ∨ (ep : Int) < 1 := by omega
    clear e k2'
    go_enter Try.func38, Try.ntmps38
    go_wp2_with fail
    go_ret
    exact ⟨rfl, by rw [HWW.out]; exact HB.out⟩
end Go.Proofs.Ytdblplkaobeimaa
namespace Go.Proofs.Ytdblplkaobeimaa
open Go.RowKit Go.Deep Go.Shelf
set_option linter.unusedVariables false
set_option linter.unusedSimpArgs false

set_option maxHeartbeats 1000000 in
theorem fitsC_any (L : List ChT) (a : Option Addr) (c B : Nat) (w : World) (hro : Ro w B a (chv L)) (hB : B ≤ w.heap.size) (hl : L.length ≤ 9223372036854775807) :
    Calls Try.prog 50 #[.slice a L.length c] w fun e w' => (∃ t, e = .returned (.bool t)) ∧ Below w.heap.size w w' := by
  have HRO := Lib.hid hro
  have HS := Lib.hid hB
  generalize hN : L.length = n at *
  have HN := Lib.hid hN
  have hn1 : (n : Int) ≤ 9223372036854775807 := by omega
  clear hro hB hN
  go_enter Try.func50, Try.ntmps50
  go_wp2_with fail
  go_loopw [3] (fun i wr => ∃ k : Nat, k ≤ n ∧ k ≤ 10 ∧ i = .int .i64 (k : Int) ∧ Hid (Below w.heap.size w wr)) (fun i _ => n - (intOf i).toNat)
  case atStart => exact ⟨0, Nat.zero_le _, Nat.zero_le _, rfl, Lib.hid (Below.refl _ _)⟩
  case round =>
    obtain ⟨k, hk, hk10, rfl, HBk⟩ := hrel
    by_cases hlt : k < n
    · have hkL : k < L.length := by rw [HN.out]; exact hlt
      obtain ⟨b, off, rfl, hb, hc⟩ := (HRO.out.below HBk.out HS.out).ch (show 0 < L.length by omega)
      have e1 := hc k hkL
      clear hc
      have hk0 : (0 : Int) ≤ (k : Int) := by omega
      have hk1 : (k : Int) < (n : Int) := by omega
      have hk2 : (k : Int) ≤ 10 := by omega
      generalize (ct L k).a = x2 at *
      generalize (ct L k).u.length = x3 at *
      generalize (ct L k).c = x4 at *
      by_cases h10 : k = 10
      · subst h10
        go_wp2_with fail
        go_ret
        exact ⟨⟨_, rfl⟩, HBk.out⟩
      · have h10' : ((k : Int) == 10) = false := by rw [beq_eq_false_iff_ne]; omega
        have HK10 := Lib.hid h10
        by_cases h3 : 10 < x3
        · have h3' : decide ((10 : Int) < (x3 : Int)) = true := by simp; omega
          clear h10 h3
          go_wp2_with fail
          go_ret
          exact ⟨⟨_, rfl⟩, HBk.out⟩
        · have h3' : decide ((10 : Int) < (x3 : Int)) = false := by simp; omega
          clear h10 h3
          go_wp2_with fail
          go_roundw
          case rel => exact ⟨k + 1, by omega, by have := HK10.out; omega, by go_num, HBk⟩
          case measure => simp [intOf]; omega
    · obtain rfl : k = n := by omega
      go_wp2_with fail
      go_ret
      exact ⟨⟨_, rfl⟩, HBk.out⟩

set_option maxHeartbeats 1000000 in
theorem fitsL_any (A : LyT) (B : Nat) (w : World) (h : LyIn w B A) (hB : B ≤ w.heap.size) (hf : SgFit A.sg) :
    Calls Try.prog 30 #[A.val] w fun e w' => (∃ t, e = .returned (.bool t)) ∧ Below w.heap.size w w' := by
  obtain ⟨W, HWW⟩ : ∃ W, Hid (w.alloc (.cells #[.int .u64 (A.e : Int), .slice A.a A.sg.length A.c, .int .i64 A.q] 38) = W) := ⟨_, Lib.hid rfl⟩
  have hWb : Below w.heap.size w W := by rw [← HWW.out]; exact (Below.refl _ _).alloc (Nat.le_refl _) _
  have o1 : Own W w.heap.size 38 [.int .u64 (A.e : Int), .slice A.a A.sg.length A.c, .int .i64 A.q] := by rw [← HWW.out]; exact Own.new w _ _
  have HIN := Lib.hid h
  have HB := Lib.hid hWb
  have HO := Lib.hid o1
  have HS := Lib.hid hB
  have HF := Lib.hid hf
  have hfl := hf.1
  clear h hWb o1 hB hf
  obtain ⟨ep, sa, c, L, q⟩ := A
  simp only [LyT.val] at *
  generalize hN : L.length = n at *
  have HN := Lib.hid hN
  have hn1 : (n : Int) ≤ 9223372036854775807 := by omega
  clear hN
  go_enter Try.func30, Try.ntmps30
  go_upto_region 1 with fail
  rw [HWW.out]
  go_wp2_with fail
  go_loopw [3] (fun i wr => ∃ k : Nat, k ≤ n ∧ k ≤ 10 ∧ i = .int .i64 (k : Int) ∧ Hid (Below w.heap.size w wr) ∧ Hid (Own wr w.heap.size 38 [.int .u64 (ep : Int), .slice sa n c, .int .i64 q])) (fun i _ => n - (intOf i).toNat)
  case atStart => exact ⟨0, Nat.zero_le _, Nat.zero_le _, rfl, HB, HO⟩
  case round =>
    obtain ⟨k, hk, hk10, rfl, HBk, HOk⟩ := hrel
    have d1 := HOk.out.cell 1
    have hz := HOk.out.lt
    simp at d1
    by_cases hlt : k < n
    · have hkL : k < L.length := by rw [HN.out]; exact hlt
      obtain ⟨b, off, rfl, hb, hc⟩ := (HIN.out.1.below HBk.out HS.out).sg (show 0 < L.length by omega)
      obtain ⟨e1, e2⟩ := hc k hkL
      clear hc
      have hk0 : (0 : Int) ≤ (k : Int) := by omega
      have hk1 : (k : Int) < (n : Int) := by omega
      have hk2 : (k : Int) ≤ 10 := by omega
      have HC := Lib.hid (fitsC_any (st L k).ch (st L k).a (st L k).c B wr ((HIN.out.2 _ (st_mem hkL)).1.below HBk.out HS.out) (Nat.le_trans HS.out HBk.out.size) (HF.out.2 _ (st_mem hkL)).1)
      generalize (st L k).f = x1 at *
      generalize (st L k).a = x2 at *
      generalize (st L k).ch.length = x3 at *
      generalize (st L k).c = x4 at *
      go_wp2_with fail
      refine HC.out.mono ?_
      rintro e w1 ⟨⟨t, rfl⟩, hb1⟩
      have HB1 := Lib.hid (HBk.out.trans (hb1.mono HBk.out.size))
      have HO1 := Lib.hid (HOk.out.below hb1 HOk.out.lt)
      clear hb1
      cases t with
      | false =>
        go_wp2_with fail
        go_ret
        exact ⟨⟨_, rfl⟩, HB1.out⟩
      | true =>
        by_cases h10 : k = 10
        · subst h10
          go_wp2_with fail
          go_ret
          exact ⟨⟨_, rfl⟩, HB1.out⟩
        · have h10' : ((k : Int) == 10) = false := by rw [beq_eq_false_iff_ne]; omega
          have HK10 := Lib.hid h10
          clear h10
          go_wp2_with fail
          go_roundw
          case rel => exact ⟨k + 1, by omega, by have := HK10.out; omega, by go_num, HB1, HO1⟩
          case measure => simp [intOf]; omega
    · obtain rfl : k = n := by omega
      go_wp2_with fail
      go_ret
      exact ⟨⟨_, rfl⟩, HBk.out⟩

/-- what is asked of a layout, by value -/
abbrev folV (a1 : Option Addr) (n1 c1 : Nat) (a2 : Option Addr) (n2 c2 : Nat) (sq : Int) (f : Nat) (a3 : Option Addr) (n3 c3 : Nat) : Value := .agg #[.slice a1 n1 c1, .slice a2 n2 c2, .int .i64 sq, .int .u64 (f : Int), .slice a3 n3 c3]
end Go.Proofs.Ytdblplkaobeimaa
