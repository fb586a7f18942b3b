/-
  Words of this seat: Backs and cells, as values and as rows in memory; the first index that has something. Plain lemmas, no claim of their own.
-/
import Derived.Test.YtdpaofedepnnbaaGreatList
import Derived.Lib.SmallJoins
namespace Go.Proofs.YtdpaofedepnnbaaGreat
open Go.RowKit Go.Deep
set_option linter.unusedVariables false
set_option linter.unusedSimpArgs false

/-- a Back: its stream, its two addresses -/
abbrev Bk := Int × Nat × Nat
/-- a cell: its kind, its data, its Backs -/
structure Ce where
  k : Int
  d : List UInt8
  b : List Bk
theorem Ce.ext' {x y : Ce} (h1 : x.k = y.k) (h2 : x.d = y.d) (h3 : x.b = y.b) : x = y := by
  cases x; cases y; simp_all
def FitB (b : Bk) : Prop := -9223372036854775808 ≤ b.1 ∧ b.1 ≤ 9223372036854775807 ∧ b.2.1 ≤ 18446744073709551615 ∧ b.2.2 ≤ 18446744073709551615

/-- the cells of Backs -/
def bcs : List Bk → List Value
  | [] => []
  | b :: L => .int .i64 b.1 :: .int .u64 (b.2.1 : Int) :: .int .u64 (b.2.2 : Int) :: bcs L
/-- a Back by value -/
abbrev bkv (b : Bk) : Value := .agg #[.int .i64 b.1, .int .u64 (b.2.1 : Int), .int .u64 (b.2.2 : Int)]
@[simp] theorem bcs_length (L : List Bk) : (bcs L).length = L.length * 3 := by
  induction L with
  | nil => rfl
  | cons r L ih => simp [bcs, ih]; omega
theorem bcs_append (A B : List Bk) : bcs (A ++ B) = bcs A ++ bcs B := by
  induction A with
  | nil => rfl
  | cons r A ih => simp [bcs, ih]
theorem bcs_one (L : List Bk) : ∀ v ∈ bcs L, v.oneCell' = true := by
  induction L with
  | nil => intro v hv; cases hv
  | cons r L ih =>
    intro v hv
    simp only [bcs, List.mem_cons] at hv
    rcases hv with rfl | rfl | rfl | hv
    · rfl
    · rfl
    · rfl
    · exact ih v hv
theorem bcs_get (L : List Bk) (i : Nat) : (bcs L)[i * 3]? = L[i]?.map (fun r => Value.int .i64 r.1) ∧ (bcs L)[i * 3 + 1]? = L[i]?.map (fun r => Value.int .u64 (r.2.1 : Int)) ∧ (bcs L)[i * 3 + 2]? = L[i]?.map (fun r => Value.int .u64 (r.2.2 : Int)) := by
  induction L generalizing i with
  | nil => simp [bcs]
  | cons r L ih =>
    cases i with
    | zero => simp [bcs]
    | succ i => rw [show (i + 1) * 3 = i * 3 + 1 + 1 + 1 by omega]; simpa [bcs] using ih i
/-- the Back i -/
def bk (L : List Bk) (i : Nat) : Bk := L.getD i (0, 0, 0)
theorem bk_get {L : List Bk} {i : Nat} (h : i < L.length) : L[i]? = some (bk L i) := by simp [bk, List.getD, h]
theorem bk_mem {L : List Bk} {i : Nat} (h : i < L.length) : bk L i ∈ L := by
  have : bk L i = L[i] := by simp [bk, List.getD, h]
  rw [this]; exact List.getElem_mem h
theorem bk_take {L : List Bk} {k : Nat} (h : k < L.length) : L.take (k + 1) = L.take k ++ [bk L k] := by
  have : bk L k = L[k] := by simp [bk, List.getD, h]
  rw [List.take_succ_eq_append_getElem h, this]
theorem bcs_bk {L : List Bk} {i : Nat} (h : i < L.length) : (bcs L).getD (i * 3) undef = .int .i64 (bk L i).1 ∧ (bcs L).getD (i * 3 + 1) undef = .int .u64 ((bk L i).2.1 : Int) ∧ (bcs L).getD (i * 3 + 2) undef = .int .u64 ((bk L i).2.2 : Int) := by
  obtain ⟨h1, h2, h3⟩ := bcs_get L i
  rw [bk_get h] at h1 h2 h3
  simp [List.getD, h1, h2, h3]
theorem Ro.bk {w : World} {B : Nat} {a : Option Addr} {L : List Bk} (h : Ro w B a (bcs L)) (hn : 0 < L.length) :
    ∃ b off, a = some ⟨b, off, none⟩ ∧ b < B ∧ ∀ i, i < L.length → w.cell? ⟨b, off + i * 3, none⟩ = some (.int .i64 (bk L i).1) ∧ w.cell? ⟨b, off + i * 3 + 1, none⟩ = some (.int .u64 ((bk L i).2.1 : Int)) ∧ w.cell? ⟨b, off + i * 3 + 2, none⟩ = some (.int .u64 ((bk L i).2.2 : Int)) := by
  obtain ⟨b, off, h1, h2, h3⟩ := h.at_ (by intro e; have e2 := congrArg List.length e; simp at e2; omega)
  refine ⟨b, off, h1, h2, fun i hi => ?_⟩
  obtain ⟨e1, e2, e3⟩ := bcs_bk hi
  have g1 := h3 (i * 3) (by simp; omega)
  have g2 := h3 (i * 3 + 1) (by simp; omega)
  have g3 := h3 (i * 3 + 2) (by simp; omega)
  rw [e1] at g1
  rw [e2] at g2
  rw [e3] at g3
  exact ⟨g1, by rw [Nat.add_assoc]; exact g2, by rw [Nat.add_assoc]; exact g3⟩

/-- a cell by value -/
abbrev cev (k : Int) (a : Option Addr) (n c : Nat) (a2 : Option Addr) (n2 c2 : Nat) : Value := .agg #[.int .i64 k, .slice a n c, .slice a2 n2 c2]

/-- the first index below n that has p, or -1 -/
def fx (p : Nat → Bool) : Nat → Int
  | 0 => -1
  | n + 1 => if 0 ≤ fx p n then fx p n else if p n then (n : Int) else -1
/-- some index below n has p -/
def anyN (p : Nat → Bool) (n : Nat) : Bool := decide (0 ≤ fx p n)
theorem fx_miss (p : Nat → Bool) (n : Nat) (h : ∀ j, j < n → p j = false) : fx p n = -1 := by
  induction n with
  | zero => rfl
  | succ n ih => simp only [fx]; rw [ih (fun j hj => h j (by omega)), h n (by omega)]; simp
theorem fx_hit (p : Nat → Bool) (n k : Nat) (hk : k < n) (hp : p k = true) (h : ∀ j, j < k → p j = false) : fx p n = (k : Int) := by
  induction n with
  | zero => omega
  | succ n ih =>
    simp only [fx]
    by_cases e : k = n
    · subst e; rw [fx_miss p k h, hp]; simp
    · rw [ih (by omega), if_pos (by omega)]
theorem fx_or (p : Nat → Bool) (n : Nat) : (fx p n = -1 ∧ ∀ j, j < n → p j = false) ∨ ∃ k, k < n ∧ fx p n = (k : Int) ∧ p k = true ∧ ∀ j, j < k → p j = false := by
  induction n with
  | zero => exact .inl ⟨rfl, by omega⟩
  | succ n ih =>
    rcases ih with ⟨h1, h2⟩ | ⟨k, h0, h1, h2, h3⟩
    · by_cases hp : p n = true
      · exact .inr ⟨n, by omega, fx_hit p _ n (by omega) hp h2, hp, h2⟩
      · have hp' : p n = false := by simpa using hp
        exact .inl ⟨fx_miss p _ (fun j hj => by
          by_cases e : j = n
          · subst e; exact hp'
          · exact h2 j (by omega)), fun j hj => by
          by_cases e : j = n
          · subst e; exact hp'
          · exact h2 j (by omega)⟩
    · exact .inr ⟨k, by omega, fx_hit p _ k (by omega) h2 h3, h2, h3⟩
theorem anyN_false {p : Nat → Bool} {n : Nat} : anyN p n = false ↔ ∀ j, j < n → p j = false := by
  unfold anyN
  rcases fx_or p n with ⟨h1, h2⟩ | ⟨k, h0, h1, h2, h3⟩
  · rw [h1]; simp; exact h2
  · rw [h1]; simp; exact ⟨k, h0, by simp [h2]⟩
theorem fx_le (p : Nat → Bool) (n : Nat) : -1 ≤ fx p n ∧ fx p n < n := by
  rcases fx_or p n with ⟨h1, _⟩ | ⟨k, h0, h1, _⟩ <;> omega
end Go.Proofs.YtdpaofedepnnbaaGreat
