/-
  What a message's streams may be, by the document: Streams, by its contract. Lemmas, no claim of their own.
-/
import Derived.Test.YtkdgoopldaoihaaGb10
import Derived.Deep.QuietTactic
import Derived.BigQuiet
namespace Go.Proofs.Ytkdgoopldaoihaa
open Go.RowKit Go.Deep
set_option linter.unusedVariables false
set_option linter.unusedSimpArgs false

theorem mis_first (x : Int) : mis 0 x = (decide (x < 0) || decide (16 ≤ x)) := rfl
theorem mis_next (p x : Int) (hp : 0 ≤ p ∧ p < 16) : mis (wrap64 (p + 1)) x = ((decide (x < 0) || decide (16 ≤ x)) || decide (x ≤ p)) := by
  have e : wrap64 (p + 1) = p + 1 := by unfold wrap64; omega
  rw [e]
  unfold mis
  by_cases h1 : x < 0
  · have : x < p + 1 := by omega
    simp [h1, this]
  · by_cases h2 : 16 ≤ x
    · simp [h1, h2]
    · by_cases h3 : x ≤ p
      · have : x < p + 1 := by omega
        simp [this, h3]
      · have : ¬ x < p + 1 := by omega
        simp [h1, h2, h3, this]
/-- all before k are in their places -/
def StU (L : List Int) (k : Nat) : Prop := ∀ j, j < k → mis (leastI L j) (L.getD j 0) = false ∧ 0 ≤ L.getD j 0 ∧ L.getD j 0 < 16
theorem StU.step {L : List Int} {k : Nat} (h : StU L k) (hm : mis (leastI L k) (L.getD k 0) = false) : StU L (k + 1) := by
  have h0 : 0 ≤ leastI L k := by
    unfold leastI
    split
    · omega
    · have := (h (k - 1) (by omega)).2
      unfold wrap64
      omega
  intro j hj
  rcases Nat.lt_or_ge j k with h1 | h1
  · exact h j h1
  · obtain rfl : j = k := by omega
    refine ⟨hm, ?_⟩
    unfold mis at hm
    simp only [Bool.or_eq_false_iff, decide_eq_false_iff_not] at hm
    omega
theorem StU.all {L : List Int} (h : StU L L.length) : stOk L = decide (L.length ≤ 4) := by
  unfold stOk
  rw [anyN_false.2 (fun j hj => (h j hj).1)]
  simp
theorem StU.bad {L : List Int} {k : Nat} (hk : k < L.length) (hm : mis (leastI L k) (L.getD k 0) = true) : stOk L = false := by
  unfold stOk
  cases e : anyN (fun k => mis (leastI L k) (L.getD k 0)) L.length with
  | true => simp
  | false =>
    have := anyN_false.1 e k hk
    rw [hm] at this
    cases this
end Go.Proofs.Ytkdgoopldaoihaa
namespace Go.Proofs.Ytkdgoopldaoihaa
open Go.RowKit Go.Deep
set_option linter.unusedVariables false
set_option linter.unusedSimpArgs false

set_option maxHeartbeats 4000000 in
theorem dhas_any (L : List Int) (x : Int) (a : Option Addr) (c B : Nat) (w : World) (hro : Ro w B a (i64s L)) (hB : B ≤ w.heap.size) (hl : L.length ≤ 9223372036854775807) :
    Calls Try.prog 39 #[.slice a L.length c, .int .i64 x] w fun e w' => e = .returned (.bool (decide (x ∈ L))) ∧ Chg [] w w' := by
  obtain ⟨n, hn⟩ : ∃ n, L.length = n := ⟨_, rfl⟩
  have HN := Lib.hid hn
  have HRO := Lib.hid (And.intro hro hB)
  obtain ⟨st, hst⟩ : ∃ st, decide (x ∈ L) = st := ⟨_, rfl⟩
  have HST := Lib.hid hst
  rw [hst]
  rw [hn] at hl ⊢
  clear hst hn hro hB
  go_enter Try.func39, Try.ntmps39
  go_wp2_with fail
  go_loopw [5] (fun i wr => ∃ k : Nat, k ≤ n ∧ i = .int .i64 (k : Int) ∧ Hid (∀ j, j < k → L.getD j 0 ≠ x) ∧ Hid (Chg [] w wr)) (fun i _ => n - (intOf i).toNat)
  case atStart => exact ⟨0, Nat.zero_le _, rfl, Lib.hid (fun j hj => by omega), Lib.hid (Chg.refl _ _)⟩
  case round =>
    obtain ⟨k, hk, rfl, HU, HC⟩ := hrel
    rename World => w6
    by_cases hlt : k < n
    · have hkL : k < L.length := by rw [HN.out]; exact hlt
      obtain ⟨b, off, rfl, hb, hc⟩ := (HRO.out.1.below (HC.out.below HRO.out.2 (by simp)) (Nat.le_refl _)).i64 (show 0 < L.length by omega)
      have c1 := hc k hkL
      have HM : Hid (L.getD k 0 ∈ L) := Lib.hid (by simp [List.getD, hkL])
      have HS : Hid (L.getD k 0 ≠ x → ∀ j, j < k + 1 → L.getD j 0 ≠ x) := Lib.hid (fun h j hj => by
        rcases Nat.lt_or_ge j k with h1 | h1
        · exact HU.out j h1
        · obtain rfl : j = k := by omega
          exact h)
      generalize L.getD k 0 = y at *
      have j0 : (0 : Int) ≤ (k : Int) := by omega
      have j1 : (k : Int) < (n : Int) := by omega
      clear hc hkL hk
      by_cases hy : y = x
      · subst hy
        have es : st = true := by rw [← HST.out]; exact decide_eq_true HM.out
        subst es
        go_wp2_with fail
        go_ret
        exact ⟨rfl, HC.out⟩
      · have ey : (y == x) = false := by rw [beq_eq_false_iff_ne]; exact hy
        have HY := Lib.hid (HS.out hy)
        clear hy
        go_wp2_with fail
        go_roundw
        case rel => exact ⟨k + 1, by omega, by go_num, HY, HC⟩
        case measure => simp [intOf]; omega
    · obtain rfl : k = n := by omega
      have es : st = false := by
        rw [← HST.out]
        refine decide_eq_false fun hm => ?_
        obtain ⟨j, hj, e⟩ := List.getElem_of_mem hm
        refine HU.out j (by rw [← HN.out]; exact hj) ?_
        simp [List.getD, hj, e]
      subst es
      go_wp2_with fail
      go_ret
      exact ⟨rfl, HC.out⟩
/-- an address, or none -/
def adOk (v : Nat) : Bool := decide (v < 1048576) || decide (v = 18446744073709551615)
end Go.Proofs.Ytkdgoopldaoihaa
namespace Go.Proofs.Ytkdgoopldaoihaa
open Go.RowKit Go.Deep
set_option linter.unusedVariables false
set_option linter.unusedSimpArgs false

/-- the greatest number of 64 bits: no address -/
def noA : Nat := 18446744073709551615
theorem lastOk_doc (s : Int) (x y : Nat) : lastOk (s, x, y) = (adOk x && (adOk y && (!((!decide (y = noA)) && decide (x ≤ y)) && !(decide (x = noA) && !decide (y = noA))))) := by
  rw [Bool.eq_iff_iff, lastOk_iff]
  unfold adOk
  have hN : noA = 18446744073709551615 := rfl
  rw [← hN]
  have h0 : 1048576 < noA := by rw [hN]; omega
  clear hN
  generalize noA = N at *
  dsimp only
  by_cases a : x = N <;> by_cases b : y = N <;> by_cases c : x ≤ y <;> by_cases d : x < 1048576 <;> by_cases e : y < 1048576
  all_goals
    simp only [a, b, c, d, e, decide_true, decide_false, Bool.or_true, Bool.or_false, Bool.true_and, Bool.false_and, Bool.and_true, Bool.and_false, Bool.not_true, Bool.not_false, Bool.or_self, Bool.true_or, Bool.false_or]
    try simp
    try omega
theorem noA_eq (x : Nat) : ((x : Int) == 18446744073709551615) = decide (x = noA) := by
  unfold noA
  by_cases h : x = 18446744073709551615
  · rw [decide_eq_true h, h]; rfl
  · rw [decide_eq_false h, beq_eq_false_iff_ne]; omega
end Go.Proofs.Ytkdgoopldaoihaa
namespace Go.Proofs.Ytkdgoopldaoihaa
open Go.RowKit Go.Deep
set_option linter.unusedVariables false
set_option linter.unusedSimpArgs false

theorem bbad_mis (m : Int) (b : Bk) : bbad m b = (mis m b.1 || !lastOk b) := rfl
/-- all before k are in their places -/
def StB (L : List Bk) (k : Nat) : Prop := ∀ j, j < k → bbad (least L j) (bk L j) = false ∧ 0 ≤ (bk L j).1 ∧ (bk L j).1 < 16
theorem StB.step {L : List Bk} {k : Nat} (h : StB L k) (hm : bbad (least L k) (bk L k) = false) : StB L (k + 1) := by
  have h0 : 0 ≤ least L k := by
    unfold least
    split
    · omega
    · have := (h (k - 1) (by omega)).2
      unfold wrap64
      omega
  intro j hj
  rcases Nat.lt_or_ge j k with h1 | h1
  · exact h j h1
  · obtain rfl : j = k := by omega
    refine ⟨hm, ?_⟩
    rw [bbad_mis, Bool.or_eq_false_iff] at hm
    have hm := hm.1
    unfold mis at hm
    simp only [Bool.or_eq_false_iff, decide_eq_false_iff_not] at hm
    omega
theorem StB.all {L : List Bk} (h : StB L L.length) : backsOk L = true := by
  unfold backsOk
  rw [anyN_false.2 (fun j hj => (h j hj).1)]
  rfl
theorem StB.bad {L : List Bk} {k : Nat} (hk : k < L.length) (hm : bbad (least L k) (bk L k) = true) : backsOk L = false := by
  unfold backsOk
  cases e : anyN (fun k => bbad (least L k) (bk L k)) L.length with
  | true => rfl
  | false =>
    have := anyN_false.1 e k hk
    rw [hm] at this
    cases this
end Go.Proofs.Ytkdgoopldaoihaa
namespace Go.Proofs.Ytkdgoopldaoihaa
open Go.RowKit Go.Deep
set_option linter.unusedVariables false
set_option linter.unusedSimpArgs false

end Go.Proofs.Ytkdgoopldaoihaa
namespace Go.Proofs.Ytkdgoopldaoihaa
open Go.RowKit Go.Deep
set_option linter.unusedVariables false
set_option linter.unusedSimpArgs false

theorem right_one (b : Bk) : right ⟨1, [], [b]⟩ = backsOk [b] := by
  unfold right
  simp
theorem right_one_in {b : Bk} (h : backsOk [b] = true) : 0 ≤ b.1 ∧ b.1 < 16 := by
  have := backsOk_at h 0 (by simp)
  simp [bk] at this
  omega
theorem mbad_first (b : Bk) : mbad 0 b = !backsOk [b] := by
  unfold mbad
  rw [right_one]
  cases e : backsOk [b] with
  | false => simp
  | true =>
    have := right_one_in e
    rw [mis_first]
    simp
    omega
theorem mbad_next (p : Int) (b : Bk) (hp : 0 ≤ p ∧ p < 16) : mbad (wrap64 (p + 1)) b = (!backsOk [b] || decide (b.1 ≤ p)) := by
  unfold mbad
  rw [right_one, mis_next _ _ hp]
  cases e : backsOk [b] with
  | false => simp
  | true =>
    have := right_one_in e
    have e1 : decide (b.1 < 0) = false := decide_eq_false (by omega)
    have e2 : decide (16 ≤ b.1) = false := decide_eq_false (by omega)
    rw [e1, e2]
    simp
/-- all before k are in their places -/
def StM (L : List Bk) (k : Nat) : Prop := ∀ j, j < k → mbad (least L j) (bk L j) = false ∧ 0 ≤ (bk L j).1 ∧ (bk L j).1 < 16
theorem StM.step {L : List Bk} {k : Nat} (h : StM L k) (hm : mbad (least L k) (bk L k) = false) : StM L (k + 1) := by
  intro j hj
  rcases Nat.lt_or_ge j k with h1 | h1
  · exact h j h1
  · obtain rfl : j = k := by omega
    refine ⟨hm, ?_⟩
    unfold mbad at hm
    rw [right_one, Bool.or_eq_false_iff] at hm
    exact right_one_in (by simpa using hm.2)
theorem StM.all {L : List Bk} (h : StM L L.length) : mbOk L = true := by
  unfold mbOk
  rw [anyN_false.2 (fun j hj => (h j hj).1)]
  rfl
theorem StM.bad {L : List Bk} {k : Nat} (hk : k < L.length) (hm : mbad (least L k) (bk L k) = true) : mbOk L = false := by
  unfold mbOk
  cases e : anyN (fun k => mbad (least L k) (bk L k)) L.length with
  | true => rfl
  | false =>
    have := anyN_false.1 e k hk
    rw [hm] at this
    cases this
end Go.Proofs.Ytkdgoopldaoihaa
